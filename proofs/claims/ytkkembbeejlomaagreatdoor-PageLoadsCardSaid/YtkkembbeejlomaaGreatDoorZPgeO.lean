/- PageLoads, its walk. -/
import Derived.Test.YtkkembbeejlomaaGreatDoorZPgbH
import Derived.Deep.CutBlock
set_option linter.unusedSimpArgs false
set_option linter.unusedVariables false
set_option linter.unnecessarySimpa false
namespace Go.Proofs.YtkkembbeejlomaaGreatDoor
open Go.RowKit Go.Shelf Go.Sort Go.Lib

set_option maxRecDepth 100000 in
set_option maxHeartbeats 16000000 in
theorem law_loads {w : World} (hG : Glob w) {pv ov : Value} {np : Nat} {lo : List UInt8} {most at_ : Int} {by_ : UInt8} (hp : PagesArg w pv np) (ho : BIs w ov lo) (hm0 : -9223372036854775808 ≤ most ∧ most ≤ 9223372036854775807) (ha0 : -9223372036854775808 ≤ at_ ∧ at_ ≤ 9223372036854775807) :
    Calls Tryz.prog 4 #[pv, .int .i64 most, .int .i64 at_, .int .u8 (by_.toNat : Int), ov] w fun e w' => e = .returned (.bool true) ∧ Below w.heap.size w w' := by
  obtain ⟨A, cap, rfl, hc1, hc2, hpg⟩ := hp
  unfold maxLen at hc2
  have hnI : (np : Int) ≤ 9223372036854775807 := by omega
  have HPA := Lib.hid hpg
  have HO := Lib.hid ho
  have HG := Lib.hid hG
  obtain ⟨Ao, co, rfl, hco1, hco2, _⟩ := ho
  unfold maxLen at hco2
  have hb1 := below_new (w := w) (.cells #[.int .i64 most, .slice none 0 0] 31)
  have hat := alloc_at w (.cells #[.int .i64 most, .slice none 0 0] 31)
  obtain ⟨w1, hw1⟩ : ∃ w1, w1 = w.alloc (.cells #[.int .i64 most, .slice none 0 0] 31) := ⟨_, rfl⟩
  rw [← hw1] at hb1 hat
  have hst : RSt w1 w.heap.size most (.slice none 0 0) [] [] := ⟨⟨hat, RowIs.nil _ _, fun i p hp => by simp at hp⟩, (fun e => by cases e), (fun u hu => by cases hu)⟩
  have HST := Lib.hid hst
  have HB1 := Lib.hid hb1
  have HW1 := Lib.hid hw1
  clear hpg hG hb1 hat hw1 hst
  go_enter Tryz.func4, Tryz.ntmps4
  go_upto_block 0 with fail
  rw [← HW1.out]
  go_cut [] from 12 to 67 (fun wx => ∃ P v us, RSt wx w.heap.size most v us P ∧ (∀ k, ROwns w.heap.size v us k → w.heap.size ≤ k) ∧ P.length ≤ 6 ∧ (∀ p ∈ P, p.length ≤ 8 ∧ ∀ x ∈ p, RowW x) ∧ Below w.heap.size w wx)
  case first =>
    go_wp2_with fail
    go_loopw [28] (fun iv wr => ∃ (i : Nat) (P : List (List Row)) (v : Value) (us : List Value), i ≤ np ∧ i ≤ 6 ∧ iv = .int .i64 i ∧ P.length = i ∧ RSt wr w.heap.size most v us P ∧ (∀ k, ROwns w.heap.size v us k → w.heap.size ≤ k) ∧ (∀ p ∈ P, p.length ≤ 8 ∧ ∀ x ∈ p, RowW x) ∧ Below w.heap.size w wr) (fun iv _ => np - (intOf iv).toNat)
    case atStart => exact ⟨0, [], _, _, Nat.zero_le _, Nat.zero_le _, rfl, rfl, HST.out, (fun k hk => by
      rcases hk with rfl | hk | ⟨u, hu, _⟩
      · exact Nat.le_refl _
      · cases hk
      · cases hu), (fun p hp => by cases hp), HB1.out⟩
    case round =>
      obtain ⟨wo, rfl⟩ : ∃ wo, wo = wr := ⟨_, rfl⟩
      obtain ⟨i, P, v, us, hi, hi6, rfl, hPl, hSt, hOwn, hPo, hbw⟩ := hrel
      have HMEET : Hid (∃ P v us, RSt wo w.heap.size most v us P ∧ (∀ k, ROwns w.heap.size v us k → w.heap.size ≤ k) ∧ P.length ≤ 6 ∧ (∀ p ∈ P, p.length ≤ 8 ∧ ∀ x ∈ p, RowW x) ∧ Below w.heap.size w wo) := Lib.hid ⟨P, v, us, hSt, hOwn, by omega, hPo, hbw⟩
      by_cases hlt : i < np
      · obtain ⟨a, u, m, rfl, hab, ku, hrow⟩ := HPA.out i hlt
        replace ku := (hbw.cell (p := a.add i) (by rw [add_block]; exact hab)).trans ku
        obtain ⟨A2, cap2, rfl, hd1, hd2, hrw⟩ := hrow
        unfold maxLen at hd2
        have hmI : (m : Int) ≤ 9223372036854775807 := by omega
        have hiI : (i : Int) < (np : Int) := by omega
        have HRW := Lib.hid hrw
        have HS := Lib.hid (And.intro hSt (And.intro hOwn hPo))
        have HBW := Lib.hid hbw
        have HPL := Lib.hid hPl
        have HLT : Hid (i + 1 ≤ np) := Lib.hid (by omega)
        by_cases hi5 : i < 6
        · have hi6I : ¬ (6 : Int) ≤ (i : Int) := by omega
          have HI5 := Lib.hid hi5
          clear hSt hOwn hPo hbw hPl hlt hrw hi hi6 hi5 HMEET
          go_wp2_with fail
          go_loopw [14, 37] (fun qv jv wx => ∃ (j : Nat) (q : List Row), j ≤ m ∧ jv = .int .i64 j ∧ RowsIs wx wo.heap.size qv q ∧ q.length ≤ 8 ∧ q.length ≤ j ∧ (∀ x ∈ q, RowW x) ∧ Below wo.heap.size wo wx) (fun _ jv _ => m - (intOf jv).toNat)
          case atStart => exact ⟨0, [], Nat.zero_le _, rfl, ⟨RowIs.nil _ _, (fun b e => by cases e)⟩, Nat.zero_le _, Nat.zero_le _, (fun x hx => by cases hx), Below.refl _ _⟩
          case round =>
            obtain ⟨j, q, hj, rfl, hrq, hq8, hqj, hqo, hbx⟩ := hrel
            obtain ⟨Aq, cq, rfl, _⟩ := hrq.1.form
            by_cases hjt : j < m
            · obtain ⟨b, sv, x, rfl, hbb, k0, k1, hx1, hx2⟩ := HRW.out j hjt
              replace k0 : wr.cell? (b.add (j * 2)) = some (.string sv) := ((HBW.out.trans (hbx.mono HBW.out.size)).cell (by rw [add_block]; exact hbb)).trans k0
              replace k1 : wr.cell? ⟨(b.add (j * 2)).block, (b.add (j * 2)).off + 1, none⟩ = some (.int .i64 x) := ((HBW.out.trans (hbx.mono HBW.out.size)).cell (p := (b.add (j * 2)).add 1) (by rw [add_block, add_block]; exact hbb)).trans k1
              have hjI : (j : Int) < (m : Int) := by omega
              have HJT : Hid (j + 1 ≤ m) := Lib.hid (by omega)
              have hb2 := below_new (w := wr) (.cells #[.string sv, .int .i64 x] 42)
              have hat2 := alloc_at wr (.cells #[.string sv, .int .i64 x] 42)
              have HSKIP : Hid (RowsIs (wr.alloc (.cells #[.string sv, .int .i64 x] 42)) wo.heap.size (.slice Aq q.length cq) q ∧ Below wo.heap.size wo (wr.alloc (.cells #[.string sv, .int .i64 x] 42))) := Lib.hid ⟨hrq.below hb2, hbx.trans (hb2.mono hbx.size)⟩
              have HQ := Lib.hid (And.intro hq8 (And.intro hqj hqo))
              have HJ8 : Hid (j < 8 → q.length < 8) := Lib.hid (fun h => by omega)
              have hqI : (q.length : Int) ≤ 8 := by omega
              by_cases h8 : j < 8
              · have h8I : (j : Int) < 8 := by omega
                have hlen8 := HJ8.out h8
                have hnew : Hid (∀ (W W' : World) (v' : Value), Below wo.heap.size wo W → RowsIs W wo.heap.size (.slice Aq q.length cq) q → RowIs W' 2 v' (q.length + 1) (pgC q ++ [strV (cutB sv), .int .i64 x]) → W.grownBy W' (Value.slice Aq q.length cq).ownBlock → (v'.ownBlock = (Value.slice Aq q.length cq).ownBlock ∨ v'.ownBlock = some W.heap.size) → RowsIs W' wo.heap.size v' (q ++ [⟨cutB sv, x⟩]) ∧ (q ++ [(⟨cutB sv, x⟩ : Row)]).length ≤ 8 ∧ (q ++ [(⟨cutB sv, x⟩ : Row)]).length ≤ j + 1 ∧ (∀ y ∈ q ++ [(⟨cutB sv, x⟩ : Row)], RowW y) ∧ Below wo.heap.size wo W') := Lib.hid (fun W W' v' h1 h2 h3 h4 h5 => by
                  obtain ⟨h6, h7⟩ := push_rows (r := ⟨cutB sv, x⟩) h2 h1.size h3 h4 h5
                  refine ⟨h6, by rw [List.length_append]; exact hlen8, by rw [List.length_append]; exact Nat.succ_le_succ hqj, fun y hy => ?_, h1.trans h7⟩
                  rcases List.mem_append.1 hy with hy | hy
                  · exact hqo y hy
                  · obtain rfl := List.mem_singleton.1 hy
                    exact ⟨cut_len sv, hx1, hx2⟩)
                by_cases h20 : 20 < sv.size
                · have h20I : (20 : Int) < (sv.size : Int) := by omega
                  have ecut := cut_over h20
                  have hb2' := below_new (w := wr) (.cells #[.string (sv.extract 0 20), .int .i64 x] 42)
                  have hW2' : RowsIs (wr.alloc (.cells #[.string (sv.extract 0 20), .int .i64 x] 42)) wo.heap.size (.slice Aq q.length cq) q ∧ Below wo.heap.size wo (wr.alloc (.cells #[.string (sv.extract 0 20), .int .i64 x] 42)) := ⟨hrq.below hb2', hbx.trans (hb2'.mono hbx.size)⟩
                  have hb3 := below_new (w := wr.alloc (.cells #[.string (sv.extract 0 20), .int .i64 x] 42)) (.cells #[.string (sv.extract 0 20), .int .i64 x] 42)
                  have hat3 := alloc_at (wr.alloc (.cells #[.string (sv.extract 0 20), .int .i64 x] 42)) (.cells #[.string (sv.extract 0 20), .int .i64 x] 42)
                  rw [asz] at hat3
                  have HSRC : Hid (Src Tryz.prog 2 40 (.slice (some ⟨wr.heap.size + 1, 0, none⟩) 1 1) 1 [strV (cutB sv), .int .i64 x] ((wr.alloc (.cells #[.string (sv.extract 0 20), .int .i64 x] 42)).alloc (.cells #[.string (sv.extract 0 20), .int .i64 x] 42))) := Lib.hid (by
                    refine src_lit ?_
                    rw [← ecut]
                    exact hat3)
                  have HW3 : Hid (RowsIs ((wr.alloc (.cells #[.string (sv.extract 0 20), .int .i64 x] 42)).alloc (.cells #[.string (sv.extract 0 20), .int .i64 x] 42)) wo.heap.size (.slice Aq q.length cq) q ∧ Below wo.heap.size wo ((wr.alloc (.cells #[.string (sv.extract 0 20), .int .i64 x] 42)).alloc (.cells #[.string (sv.extract 0 20), .int .i64 x] 42))) := Lib.hid ⟨hW2'.1.below hb3, hW2'.2.trans (hb3.mono hW2'.2.size)⟩
                  have HROW := Lib.hid HW3.out.1.1
                  clear hrq hq8 hqj hqo hbx hjt hb2 hat2 hb3 hat3 ecut h20 h8 hb2' hW2'
                  go_wp2_with (at_builtin; refine wpList_append_row _ _ Tryz.underlying40 infoR rfl (by decide) (by decide) _ rfl _ _ 40 rfl q.length 1 (pgC q) [strV (cutB sv), .int .i64 x] _ _ rfl rfl HROW.out HSRC.out ?_ ?_)
                  all_goals first | omega | skip
                  intro v' w' hrow hgrow hblk
                  have HNEW := Lib.hid (hnew.out _ w' v' HW3.out.2 HW3.out.1 hrow hgrow (by rw [asz, asz]; exact hblk))
                  clear hrow hgrow hblk
                  go_wp2_with fail
                  go_roundw
                  case rel => exact ⟨j + 1, q ++ [⟨cutB sv, x⟩], HJT.out, by go_num, HNEW.out⟩
                  case measure => have := HJT.out; simp [intOf]; omega
                · have h20I : ¬ (20 : Int) < (sv.size : Int) := by omega
                  have ecut := cut_in h20
                  have hb3 := below_new (w := wr.alloc (.cells #[.string sv, .int .i64 x] 42)) (.cells #[.string sv, .int .i64 x] 42)
                  have hat3 := alloc_at (wr.alloc (.cells #[.string sv, .int .i64 x] 42)) (.cells #[.string sv, .int .i64 x] 42)
                  rw [asz] at hat3
                  have HSRC : Hid (Src Tryz.prog 2 40 (.slice (some ⟨wr.heap.size + 1, 0, none⟩) 1 1) 1 [strV (cutB sv), .int .i64 x] ((wr.alloc (.cells #[.string sv, .int .i64 x] 42)).alloc (.cells #[.string sv, .int .i64 x] 42))) := Lib.hid (by
                    refine src_lit ?_
                    rw [← ecut]
                    exact hat3)
                  have HW3 : Hid (RowsIs ((wr.alloc (.cells #[.string sv, .int .i64 x] 42)).alloc (.cells #[.string sv, .int .i64 x] 42)) wo.heap.size (.slice Aq q.length cq) q ∧ Below wo.heap.size wo ((wr.alloc (.cells #[.string sv, .int .i64 x] 42)).alloc (.cells #[.string sv, .int .i64 x] 42))) := Lib.hid ⟨HSKIP.out.1.below hb3, HSKIP.out.2.trans (hb3.mono HSKIP.out.2.size)⟩
                  have HROW := Lib.hid HW3.out.1.1
                  clear hrq hq8 hqj hqo hbx hjt hb2 hat2 hb3 hat3 ecut h20 h8
                  go_wp2_with (at_builtin; refine wpList_append_row _ _ Tryz.underlying40 infoR rfl (by decide) (by decide) _ rfl _ _ 40 rfl q.length 1 (pgC q) [strV (cutB sv), .int .i64 x] _ _ rfl rfl HROW.out HSRC.out ?_ ?_)
                  all_goals first | omega | skip
                  intro v' w' hrow hgrow hblk
                  have HNEW := Lib.hid (hnew.out _ w' v' HW3.out.2 HW3.out.1 hrow hgrow (by rw [asz, asz]; exact hblk))
                  clear hrow hgrow hblk
                  go_wp2_with fail
                  go_roundw
                  case rel => exact ⟨j + 1, q ++ [⟨cutB sv, x⟩], HJT.out, by go_num, HNEW.out⟩
                  case measure => have := HJT.out; simp [intOf]; omega
              · have h8I : ¬ (j : Int) < 8 := by omega
                clear hrq hq8 hqj hqo hbx hjt hb2 hat2 h8
                go_wp2_with fail
                go_roundw
                case rel => exact ⟨j + 1, q, HJT.out, by go_num, HSKIP.out.1, HQ.out.1, by have := HQ.out.2.1; omega, HQ.out.2.2, HSKIP.out.2⟩
                case measure => have := HJT.out; simp [intOf]; omega
            · have hjI : ¬ (j : Int) < (m : Int) := by omega
              clear hjt
              have HRWX := Lib.hid hrq
              have HBX := Lib.hid hbx
              have HQ := Lib.hid (And.intro hq8 hqo)
              have hqI : (q.length : Int) ≤ 8 := by omega
              have hS2 := HS.out.1.below hbx
              have hb3 := below_new (w := wr) (.cells #[.slice Aq q.length cq] 40)
              have hat3 := alloc_at wr (.cells #[.slice Aq q.length cq] 40)
              have hS3 := hS2.below hb3
              obtain ⟨Av, cv, hv, hcv1, hcv2, _⟩ := hS3.at_.row.form
              have ks : wr.cell? ⟨w.heap.size, 1, none⟩ = some v := cell_of hS2.at_.head 1
              rw [hv] at ks
              have HSRC : Hid (Src Tryz.prog 1 29 (.slice (some ⟨wr.heap.size, 0, none⟩) 1 1) 1 [.slice Aq q.length cq] (wr.alloc (.cells #[.slice Aq q.length cq] 40))) := Lib.hid (Src.ofSlice _ Tryz.underlying29 ⟨wr.heap.size, 0, none⟩ 1 1 [.slice Aq q.length cq] rfl (fun jj u hu => by
                rw [add0, cell_of hat3 jj]
                simpa using hu) (fun u hu => by
                obtain rfl := List.mem_singleton.1 hu
                rfl))
              have HROW : Hid (RowIs (wr.alloc (.cells #[.slice Aq q.length cq] 40)) 1 (.slice Av P.length cv) P.length us) := Lib.hid (by rw [← hv]; exact hS3.at_.row)
              have HPUSH : Hid (∀ W' v2, RowIs W' 1 v2 (P.length + 1) (us ++ [.slice Aq q.length cq]) → (wr.alloc (.cells #[.slice Aq q.length cq] 40)).grownBy W' (Value.slice Av P.length cv).ownBlock → (v2.ownBlock = (Value.slice Av P.length cv).ownBlock ∨ v2.ownBlock = some (wr.heap.size + 1)) →
                  (W'.cell? ⟨w.heap.size, 1, none⟩ = some (.slice Av P.length cv) ∧ W'.frozen? ⟨w.heap.size, 1, none⟩ = false) ∧ RSt (W'.setCell ⟨w.heap.size, 1, none⟩ v2) w.heap.size most v2 (us ++ [.slice Aq q.length cq]) (P ++ [q]) ∧ (∀ k, ROwns w.heap.size v2 (us ++ [.slice Aq q.length cq]) k → w.heap.size ≤ k) ∧ (∀ p ∈ P ++ [q], p.length ≤ 8 ∧ ∀ x ∈ p, RowW x) ∧ Below w.heap.size w (W'.setCell ⟨w.heap.size, 1, none⟩ v2)) := Lib.hid (by
                intro W' v2 h1 h2 h3
                rw [← hv] at h2 h3
                have hsz := HBW.out.size
                have hszx := HBX.out.size
                obtain ⟨k1, k2, k3⟩ := hS3.push (RowOf.sl (HRWX.out.below hb3).1) (fun k hk e => by
                  have := HS.out.1.owns_lt k hk
                  have := rowOf_blk HRWX.out k e
                  omega) h1 h2 (by rw [asz]; exact h3)
                have hbel : Below w.heap.size wr (W'.setCell ⟨w.heap.size, 1, none⟩ v2) := (hb3.mono (by omega)).trans (k3.below (fun k hk => HS.out.2.1 k hk) (by rw [asz]; omega))
                have ht1 : Touch (fun k => v.ownBlock = some k) _ W' := Touch.grown (Touch.refl _ _) h2 (fun k e _ => e)
                have hhead1 : W'.heap[w.heap.size]? = _ := (ht1.block w.heap.size (heap_lt hS3.at_.head) hS3.off).trans hS3.at_.head
                refine ⟨⟨by rw [← hv]; exact cell_of hhead1 1, free0 hhead1 1⟩, k1, fun k hk => ?_, fun x hx => ?_, (HBW.out.trans (HBX.out.mono hsz)).trans hbel⟩
                · rcases k2 k hk with h | h | h
                  · exact HS.out.2.1 k h
                  · have := rowOf_blk HRWX.out k h
                    omega
                  · rw [asz] at h
                    omega
                · rcases List.mem_append.1 hx with h | h
                  · exact HS.out.2.2 x h
                  · obtain rfl := List.mem_singleton.1 h
                    exact HQ.out)
              clear hrq hq8 hqj hqo hbx hS2 hb3 hat3 hS3 hv hj
              unfold maxLen at hcv2
              have hPI : (P.length : Int) ≤ 6 := by have := HPL.out; have := HI5.out; omega
              go_wp2_with (at_builtin; refine wpList_append_row _ _ Tryz.underlying29 infoP rfl (by decide) (by decide) _ rfl _ _ 29 rfl P.length 1 us [.slice Aq q.length cq] _ _ rfl rfl HROW.out HSRC.out ?_ ?_)
              all_goals first | omega | skip
              intro v2 W' hrow hgrow hblk
              obtain ⟨⟨c1, f1⟩, hrest⟩ := HPUSH.out W' v2 hrow hgrow hblk
              have HRST := Lib.hid hrest
              obtain ⟨A9, c9, rfl, _⟩ := hrow.form
              have HPL2 : Hid ((P ++ [q]).length = i + 1) := Lib.hid (by rw [List.length_append, HPL.out]; rfl)
              clear hrow hgrow hblk hrest
              go_wp2_with fail
              go_roundw
              case rel => exact ⟨i + 1, P ++ [q], _, _, HLT.out, HI5.out, by go_num, HPL2.out, HRST.out⟩
              case measure => have := HLT.out; simp [intOf]; omega
        · have hi6I : (6 : Int) ≤ (i : Int) := by omega
          clear hSt hOwn hPo hbw hPl hlt hrw hi hi6 hi5
          go_wp2_with fail
          go_meet
          exact HMEET.out
      · clear hSt hOwn hPo hbw hPl
        have hiI : ¬ (i : Int) < (np : Int) := by omega
        clear hlt
        go_wp2_with fail
        go_meet
        exact HMEET.out
  case rest =>
    obtain ⟨P, v, us, hSt, hOwn, hP6, hPo, hbw⟩ := hcut
    have HS := Lib.hid hSt
    have HBW := Lib.hid hbw
    have hPo64 : ∀ p ∈ P, p.length ≤ 64 := fun p hp => Nat.le_trans (hPo p hp).1 (by omega)
    have hPoR : ∀ p ∈ P, ∀ x ∈ p, RowW x := fun p hp => (hPo p hp).2
    have HRB : Hid (∀ W, Below wc.heap.size wc W → Calls Tryz.prog 11 #[.pointer (some ⟨w.heap.size, 0, none⟩)] W fun e w' => ∃ v', e = .returned v' ∧ OwnBy w' W.heap.size v' (bytesP P) ∧ Below W.heap.size W w') := Lib.hid (fun W hW => RBytes_any (hSt.at_.below hW) (by omega) hPo64 hPoR)
    have hXl := bytes_len hPo64 hPoR (by omega)
    have hX0 : 0 < (bytesP P).length := by unfold bytesP natB; simp
    obtain ⟨X, hX⟩ : ∃ X, bytesP P = X := ⟨_, rfl⟩
    rw [hX] at HRB hXl hX0
    have hX18 : X.length ≤ 20000 := by omega
    have hoc := HO.out.below hbw
    have hb0 := hbw.size
    clear hSt hOwn hPo hbw hPo64 hPoR hX hXl hP6
    have HOC := Lib.hid hoc
    clear hoc hb0
    go_upto_if 70 with fail
    go_cut [4] from 68 to 72 (fun sv wx => (∃ l2, BIs wx sv l2 ∧ l2.length ≤ 200) ∧ wc = wx)
    case first =>
      by_cases h200 : 200 < lo.length
      · obtain ⟨ao, rfl⟩ : ∃ ao, Ao = some ao := by
          obtain ⟨A9, c9, e9, _, _, h9⟩ := HOC.out
          injection e9 with e91 _ _
          obtain ⟨b, hb⟩ : ∃ b, lo[0]? = some b := ⟨_, List.getElem?_eq_getElem (by omega)⟩
          obtain ⟨a, e, _⟩ := h9 0 b hb
          exact ⟨a, e91.trans e⟩
        have HF := Lib.hid (HOC.out.front (n := 200) (by omega))
        have hI : (200 : Int) < (lo.length : Int) := by omega
        have hco : 200 ≤ co := by omega
        obtain ⟨N, hN⟩ : ∃ N, lo.length = N := ⟨_, rfl⟩
        rw [hN] at hI hco1 ⊢
        have hNI : (N : Int) ≤ 9223372036854775807 := by omega
        clear h200 hN
        go_wp2_with fail
        go_meet
        exact ⟨⟨_, HF.out, by rw [List.length_take]; omega⟩, rfl⟩
      · have hI : ¬ (200 : Int) < (lo.length : Int) := by omega
        have HLE : Hid (lo.length ≤ 200) := Lib.hid (by omega)
        clear h200
        go_wp2_with fail
        go_meet
        exact ⟨⟨lo, HOC.out, HLE.out⟩, rfl⟩
    case rest =>
      obtain ⟨⟨l2, ho2, hl2⟩, rfl⟩ := hcut
      have HO2 := Lib.hid (And.intro ho2 hl2)
      obtain ⟨A2, c2, rfl, _⟩ := id ho2
      clear ho2 hl2 HOC
      go_wp2_with fail
      refine (HRB.out _ (Below.refl _ _)).mono ?_
      rintro e w3 ⟨v3, rfl, ho3, hb3⟩
      have HO3 := Lib.hid ho3
      have HB3 := Lib.hid hb3
      obtain ⟨g, c3, rfl, hoc3⟩ : ∃ g c3, v3 = .slice (some ⟨g, 0, none⟩) X.length c3 ∧ OwnC w3 wc.heap.size g c3 X := by
        rcases ho3 with ⟨_, e⟩ | ⟨g, c, e, h⟩
        · rw [e] at hX0; simp at hX0
        · exact ⟨g, c, e, h⟩
      have HC3 := Lib.hid hoc3
      clear ho3 hb3 hoc3
      obtain ⟨m2, hm2, hmm2⟩ := tmod_cases at_ X.length hX0
      have l1 : ((X.length : Int) == 0) = false := by rw [beq_eq_false_iff_ne]; omega
      have l2 : ¬ (X.length : Int) = 0 := by omega
      have HM2 := Lib.hid hm2
      have HX18 := Lib.hid hX18
      have hmI : (m2 : Int) ≤ 20000 := by omega
      obtain ⟨N, hN⟩ : ∃ N, X.length = N := ⟨_, rfl⟩
      rw [hN] at hmm2 l1 l2 ⊢
      have HN := Lib.hid hN
      obtain ⟨y, hy⟩ : ∃ y, at_.tmod (N : Int) = y := ⟨_, rfl⟩
      rw [hy] at hmm2
      clear hm2 hN hX0 hX18
      go_upto_if 80 with fail
      go_cut [2] from 75 to 82 (fun s2 wx => s2 = .int .i64 (m2 : Int) ∧ w3 = wx)
      case first =>
        rcases hmm2 with h9 | ⟨h0, h9⟩
        · have q1 : ¬ y < 0 := by omega
          clear hy
          subst h9
          go_wp2_with fail
          go_meet
          exact ⟨rfl, rfl⟩
        · have q1 : y < 0 := by omega
          have q2 : IntKind.i64.wrap (-y) = (m2 : Int) := by rw [h9, Int.neg_neg]; exact IntWalk.i64_in _ (by omega)
          clear h9 hy
          go_wp2_with fail
          go_meet
          exact ⟨rfl, rfl⟩
      case rest =>
        obtain ⟨rfl, rfl⟩ := hcut
        clear hmm2 hy l1 l2
        obtain ⟨xb, hrm⟩ : ∃ xb, X[m2]? = some xb := ⟨_, List.getElem?_eq_getElem HM2.out⟩
        have hcm := HC3.out.holds m2 _ hrm
        have hfm := (HC3.out.there m2 (Nat.lt_of_lt_of_le HM2.out HC3.out.le)).2
        have hnew := HC3.out.set HM2.out (xb ^^^ by_)
        have hxor := u8_xor xb by_
        rw [← hxor] at hnew
        have l3 : (m2 : Int) < (N : Int) := by have := HM2.out; have := HN.out; omega
        have l4 : N ≤ c3 := by have := HC3.out.le; have := HN.out; omega
        have hmxc := HC3.out.max
        unfold maxLen at hmxc
        have HNEW : Hid (OwnC (w3.setCell ⟨g, m2, none⟩ (.int .u8 (bits .xor .u8 (xb.toNat : Int) (by_.toNat : Int)))) wc.heap.size g c3 (X.set m2 (xb ^^^ by_))) := Lib.hid hnew
        have HB4 : Hid (Below wc.heap.size wc (w3.setCell ⟨g, m2, none⟩ (.int .u8 (bits .xor .u8 (xb.toNat : Int) (by_.toNat : Int))))) := Lib.hid (HB3.out.setCell (show _ ≤ g from HC3.out.new) _)
        have hadd : (⟨g, 0, none⟩ : Addr).add m2 = ⟨g, m2, none⟩ := add0 _ _
        clear hrm hnew hxor
        obtain ⟨z1, hz1⟩ : ∃ z1 : Int, (xb.toNat : Int) = z1 := ⟨_, rfl⟩
        obtain ⟨z2, hz2⟩ : ∃ z2 : Int, (by_.toNat : Int) = z2 := ⟨_, rfl⟩
        rw [hz1, hz2] at HNEW HB4
        rw [hz1] at hcm
        rw [hz2]
        clear hz1 hz2
        obtain ⟨w4, hw4⟩ : ∃ w4, w4 = w3.setCell ⟨g, m2, none⟩ (.int .u8 (bits .xor .u8 z1 z2)) := ⟨_, rfl⟩
        rw [← hw4] at HNEW HB4
        have HW4 := Lib.hid hw4
        have HRB4 := Lib.hid (HRB.out w4 HB4.out)
        clear hw4
        go_wp2_with fail
        rw [← HW4.out]
        refine (HRB4.out).mono ?_
        rintro e w5 ⟨v5, rfl, ho5, hb5⟩
        have hbis5 := ho5.bis
        have hbis4 : BIs w5 (.slice (some ⟨g, 0, none⟩) N c3) (X.set m2 (xb ^^^ by_)) := by
          have h : OwnBy w4 wc.heap.size (.slice (some ⟨g, 0, none⟩) (X.set m2 (xb ^^^ by_)).length c3) (X.set m2 (xb ^^^ by_)) := .inr ⟨g, c3, rfl, HNEW.out⟩
          have := h.bis.below hb5
          rw [List.length_set, HN.out] at this
          exact this
        have hbis2 : BIs w5 (.slice A2 l2.length c2) l2 := HO2.out.1.below (HB4.out.trans (hb5.mono HB4.out.size))
        obtain ⟨A5, c5, rfl⟩ := ho5.len
        have hb6 := below_new (w := w5) (.cells #[.slice A5 X.length c5, .slice (some ⟨g, 0, none⟩) N c3, .slice A2 l2.length c2] 39)
        have hat6 := alloc_at w5 (.cells #[.slice A5 X.length c5, .slice (some ⟨g, 0, none⟩) N c3, .slice A2 l2.length c2] 39)
        obtain ⟨wa, hwa⟩ : ∃ wa, wa = w5.alloc (.cells #[.slice A5 X.length c5, .slice (some ⟨g, 0, none⟩) N c3, .slice A2 l2.length c2] 39) := ⟨_, rfl⟩
        rw [← hwa] at hb6 hat6
        obtain ⟨ba, hba⟩ : ∃ ba, w5.heap.size = ba := ⟨_, rfl⟩
        rw [hba] at hat6
        have HBA : Hid (Below w.heap.size w wa) := Lib.hid (HBW.out.trans ((HB4.out.trans ((hb5.trans (hb6.mono hb5.size)).mono HB4.out.size)).mono HBW.out.size))
        have HEL : Hid (∀ W, Below wa.heap.size wa W → ∀ i, i < 3 → ∃ A l c, W.cell? ⟨ba, i, none⟩ = some (.slice A l.length c) ∧ BIs W (.slice A l.length c) l ∧ l.length ≤ 1073741824) := Lib.hid (fun W hW i hi => by
          have hcell : ∀ i, W.cell? ⟨ba, i, none⟩ = wa.cell? ⟨ba, i, none⟩ := fun i => hW.cell (p := ⟨ba, i, none⟩) (heap_lt hat6)
          match i, hi with
          | 0, _ => exact ⟨A5, X, c5, (hcell 0).trans (cell_of hat6 0), (hbis5.below hb6).below hW, by have := HX18.out; omega⟩
          | 1, _ =>
            refine ⟨some ⟨g, 0, none⟩, X.set m2 (xb ^^^ by_), c3, ?_, ?_, by rw [List.length_set]; have := HX18.out; omega⟩
            · rw [List.length_set, HN.out]
              exact (hcell 1).trans (cell_of hat6 1)
            · rw [List.length_set, HN.out]
              exact (hbis4.below hb6).below hW
          | 2, _ => exact ⟨A2, l2, c2, (hcell 2).trans (cell_of hat6 2), (hbis2.below hb6).below hW, by have := HO2.out.2; omega⟩)
        have HWA := Lib.hid hwa
        have HBAE := Lib.hid hba
        clear ho5 hb5 hbis5 hbis4 hbis2 hb6 hat6 hwa hcm hfm HRB4
        have HAW := Lib.hid (fun W (hW : Below w.heap.size w W) => awake_any (HG.out.below hW))
        go_wp2_with fail
        rw [← HWA.out]
        go_loopw [96] (fun iv wr => ∃ i : Nat, i ≤ 3 ∧ iv = .int .i64 i ∧ Below wa.heap.size wa wr) (fun iv _ => 3 - (intOf iv).toNat)
        case atStart => exact ⟨0, by omega, rfl, Below.refl _ _⟩
        case round =>
          obtain ⟨i, hi, rfl, hbr⟩ := hrel
          by_cases hlt : i < 3
          · obtain ⟨Ax, lx, cx, kx, hbx, hlx⟩ := HEL.out wr hbr i hlt
            have hiI : (i : Int) < 3 := by omega
            have HLT : Hid (i + 1 ≤ 3) := Lib.hid (by omega)
            have hGr := HG.out.below (HBA.out.trans (hbr.mono HBA.out.size))
            by_cases hmo : 2 ≤ most ∧ most ≤ 64
            · have hmt : ((most.toNat : Nat) : Int) = most := Int.toNat_of_nonneg (by omega)
              have hm2 : 2 ≤ most.toNat ∧ most.toNat ≤ 64 := by omega
              have hld := Load_any hbx hlx hm2 hGr
              rw [hmt] at hld
              have HLD := Lib.hid hld
              have HRL : Hid (∀ W, Below wr.heap.size wr W → Calls Tryz.prog 13 #[.slice Ax lx.length cx, .int .i64 most] W (RLoadPost W most.toNat (loadP most.toNat lx))) := Lib.hid (fun W hW => by
                have := RLoad_any (hbx.below hW) hm2
                rw [hmt, ← load_eq hm2.2] at this
                exact this)
              have q1 : ¬ most < 2 := by omega
              have q2 : ¬ 64 < most := by omega
              have HBR := Lib.hid hbr
              clear hlt hbx hlx hGr hmo hmt hm2 hld hbr hi
              go_wp2_with fail
              refine (HLD.out).mono ?_
              rintro e w6 ⟨hb6, hcase⟩
              have HB6 := Lib.hid hb6
              rcases hcase with ⟨hno, rfl⟩ | ⟨P2, s2, hsome, rfl, hSr, hok⟩
              · have HNO := Lib.hid hno
                clear hb6 hno
                go_wp2_with fail
                refine (HRL.out _ HB6.out).mono ?_
                rintro e w7 ⟨hb7, hcase7⟩
                rcases hcase7 with ⟨_, rfl⟩ | ⟨P3, r3, v3, us3, hs3, _⟩
                · have HB7 := Lib.hid (HBR.out.trans ((HB6.out.trans (hb7.mono HB6.out.size)).mono HBR.out.size))
                  clear hb7
                  go_wp2_with fail
                  go_roundw
                  case rel => exact ⟨i + 1, HLT.out, by go_num, HB7.out⟩
                  case measure => have := HLT.out; simp [intOf]; omega
                · rw [HNO.out] at hs3
                  cases hs3
              · have HSM := Lib.hid hsome
                have HSR := Lib.hid (And.intro hSr hok)
                clear hb6 hsome hSr hok
                go_wp2_with fail
                refine (HRL.out _ HB6.out).mono ?_
                rintro e w7 ⟨hb7, hcase7⟩
                rcases hcase7 with ⟨hn7, _⟩ | ⟨P3, r3, v3, us3, hs3, rfl, hR3, _⟩
                · rw [HSM.out] at hn7
                  cases hn7
                · rw [HSM.out] at hs3
                  obtain rfl := Option.some.inj hs3
                  have HSAME := Lib.hid (same_any (HSR.out.1.keep hb7) hR3.at_ HSR.out.2)
                  have HB7 := Lib.hid (HBR.out.trans ((HB6.out.trans (hb7.mono HB6.out.size)).mono HBR.out.size))
                  clear hb7 hs3 hR3
                  go_wp2_with fail
                  refine (HSAME.out).mono ?_
                  rintro e w8 ⟨rfl, hb8⟩
                  have HB8 := Lib.hid (HB7.out.trans (hb8.mono HB7.out.size))
                  clear hb8
                  go_wp2_with fail
                  go_roundw
                  case rel => exact ⟨i + 1, HLT.out, by go_num, HB8.out⟩
                  case measure => have := HLT.out; simp [intOf]; omega
            · have hmo2 : most < 2 ∨ 64 < most := by omega
              have HLD := Lib.hid (Load_not hbx hlx hmo2 hGr)
              have HBR := Lib.hid hbr
              clear hlt hbx hlx hGr hmo hbr hi
              rcases hmo2 with q1 | q2
              · go_wp2_with fail
                refine (HLD.out).mono ?_
                rintro e w6 ⟨rfl, hb6⟩
                have HB6 := Lib.hid (HBR.out.trans (hb6.mono HBR.out.size))
                clear hb6
                go_wp2_with fail
                go_roundw
                case rel => exact ⟨i + 1, HLT.out, by go_num, HB6.out⟩
                case measure => have := HLT.out; simp [intOf]; omega
              · have q1 : ¬ most < 2 := by omega
                go_wp2_with fail
                refine (HLD.out).mono ?_
                rintro e w6 ⟨rfl, hb6⟩
                have HB6 := Lib.hid (HBR.out.trans (hb6.mono HBR.out.size))
                clear hb6
                go_wp2_with fail
                go_roundw
                case rel => exact ⟨i + 1, HLT.out, by go_num, HB6.out⟩
                case measure => have := HLT.out; simp [intOf]; omega
          · obtain rfl : i = 3 := by omega
            have HBR := Lib.hid (HBA.out.trans (hbr.mono HBA.out.size))
            have HAW2 := Lib.hid (HAW.out wr HBR.out)
            clear hbr hlt
            go_wp2_with fail
            refine (HAW2.out).mono ?_
            rintro e w6 ⟨rfl, hb6⟩
            have HB6 := Lib.hid (HBR.out.trans (hb6.mono HBR.out.size))
            clear hb6
            go_wp2_with fail
            go_ret
            exact ⟨rfl, HB6.out⟩
end Go.Proofs.YtkkembbeejlomaaGreatDoor
