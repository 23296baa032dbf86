/- The reader of package octet, where what is read is not there: Strs. -/
import Derived.Test.YtakdhhapckcnaaaDoorOctK
set_option linter.unusedSimpArgs false
set_option linter.unusedVariables false
set_option linter.unnecessarySimpa false
namespace Go.Proofs.YtakdhhapckcnaaaDoor
open Go.RowKit

set_option maxRecDepth 100000 in
set_option maxHeartbeats 2000000 in
theorem rstrs_some {w : World} {g : Nat} {A : Option Addr} {cap : Nat} {bs : List UInt8} {pos n sz many most : Nat} (h : Rd w g A cap bs pos .nilIface []) (hp : natP (bs.drop pos) = some (n, sz)) (hmany : n ≤ many) (hm64 : many ≤ 1000)
    (ht : textsP most n (bs.drop (pos + sz)) = none) (hmost : most ≤ 1073741824) :
    Calls Tryd.prog 51 #[.pointer (some ⟨g, 0, none⟩), .int .i64 (many : Int), .int .i64 (most : Int)] w fun e w' => e = .returned (.slice none 0 0) ∧ Bad w' g A cap bs ∧ Only g w w' := by
  have hN := count_ok h hp hmany (by omega)
  have HN := Lib.hid hN
  have H0 := Lib.hid h
  have HT := Lib.hid ht
  clear h hp hN ht
  have hn : (n : Int) ≤ 1000 := by omega
  have hn0 : (0 : Int) ≤ (n : Int) := by omega
  go_enter Tryd.func51, Tryd.ntmps51
  go_wp2_with fail
  refine (HN.out).mono ?_
  rintro e w1 ⟨rfl, hR, hO⟩
  have HR := Lib.hid hR
  have HO := Lib.hid hO
  clear hR hO
  go_wp2_with fail
  have HG0 := Lib.hid (ErrIs.lt H0.out.blk)
  obtain ⟨i0, hi, hz0, hz1, hz2⟩ := info_parts info9
  go_loopw [7, 8] (fun v i wr => ∃ (k p : Nat) (ts : List ByteArray), i = .int .i64 (k : Int) ∧ Rd wr g A cap bs p .nilIface [] ∧ textsP most k (bs.drop p) = none ∧ ts.length + k = n ∧ wr.ownsRow w.heap.size 9 1 v ts.length (ts.map Value.string) ∧ Only g w wr) (fun _ i _ => (intOf i).toNat)
  case atStart => exact ⟨n, pos + sz, [], rfl, HR.out, HT.out, by simp, World.ownsRow_nil _ _ _ _, HO.out⟩
  case round =>
    obtain ⟨k, p, ts, rfl, hRd, htx, hlen, hown, hO⟩ := hrel
    cases k with
    | zero => simp [textsP] at htx
    | succ k =>
      rw [textsP] at htx
      split at htx
      · rename_i hs
        have HOn := Lib.hid hO
        have HST := Lib.hid (rstr_bad hRd hs hmost)
        clear hRd hown hO htx hs
        go_wp2_with fail
        refine (HST.out).mono ?_
        rintro e w2 ⟨rfl, hBd, hO2⟩
        have HBd := Lib.hid hBd
        obtain ⟨pb, eb, tb, ub, _, _, _, hR2⟩ := hBd
        have HO2 := Lib.hid (HOn.out.trans hO2)
        have HGD := Lib.hid (good_no hR2)
        clear hR2 hO2
        go_wp2_with fail
        refine (HGD.out).mono ?_
        rintro e w' ⟨rfl, rfl⟩
        go_wp2
        go_ret
        exact ⟨rfl, HBd.out, HO2.out⟩
      · rename_i s a hs
        have hr : textsP most k ((bs.drop p).drop a) = none := by
          split at htx
          · assumption
          · cases htx
        rw [List.drop_drop] at hr
        have HRd := Lib.hid hRd
        have HOw := Lib.hid hown
        have HOn := Lib.hid hO
        have HR' := Lib.hid hr
        have HST := Lib.hid (rstr_P hRd hs hmost)
        clear hRd hown hO htx hs hr
        go_wp2_with fail
        refine (HST.out).mono ?_
        rintro e w2 ⟨rfl, hR2, hO2⟩
        have HR2 := Lib.hid hR2
        have HO2 := Lib.hid (HOn.out.trans hO2)
        have HOw2 := Lib.hid (own_only HOw.out hO2 HG0.out)
        have HGD := Lib.hid (good_yes hR2)
        have hsz2 : w.heap.size ≤ w2.heap.size := HO2.out.size
        clear hR2 hO2
        go_wp2_with fail
        refine (HGD.out).mono ?_
        rintro e w' ⟨rfl, rfl⟩
        go_wp2_with (at_builtin; refine wpList_append_own _ rfl _ _ 36 rfl w.heap.size 9 i0 _ 1 16 Tryd.underlying36 hi hz0 hz1 hz2 rfl (by decide) _ _ _ rfl (HOw2.out.alloc _) ⟨w2.heap.size, 0, none⟩ 1 1 [.string s] rfl rfl (one_new _ _ rfl _ _) (str_one _) ?_ ?_ ?_ ?_)
        · unfold maxLen; omega
        · omega
        · (try simp); omega
        intro v' w' hown' hgrow _
        have hB' : Below w.heap.size w2 w' := ((Below.refl _ _).alloc hsz2 _).grown hgrow (by simp; omega) (fun j hj => (HOw2.out.lt j hj).1)
        have HO' := Lib.hid hown'
        have HR3 := Lib.hid (H0.out.keepB HR2.out hB')
        have HO3 := Lib.hid (HO2.out.below_after hB' (Nat.le_refl _))
        clear hown' hgrow hB'
        go_wp2
        go_roundw
        case rel =>
          refine ⟨k, p + a, ts ++ [s], by go_num, HR3.out, HR'.out, by simp; omega, ?_, HO3.out⟩
          rw [List.length_append, List.map_append]
          exact HO'.out
        case measure => first | (simp [intOf]; done) | (simp [intOf]; omega)
set_option maxRecDepth 100000 in
set_option maxHeartbeats 2000000 in
theorem rstrs_zero {w : World} {g : Nat} {A : Option Addr} {cap : Nat} {bs : List UInt8} {many most : Nat} (hN : Calls Tryd.prog 74 #[.pointer (some ⟨g, 0, none⟩), .int .i64 (many : Int)] w fun e w' => e = .returned (.int .i64 0) ∧ Bad w' g A cap bs ∧ Only g w w') :
    Calls Tryd.prog 51 #[.pointer (some ⟨g, 0, none⟩), .int .i64 (many : Int), .int .i64 (most : Int)] w fun e w' => e = .returned (.slice none 0 0) ∧ Bad w' g A cap bs ∧ Only g w w' := by
  have HN := Lib.hid hN
  clear hN
  go_enter Tryd.func51, Tryd.ntmps51
  go_wp2_with fail
  refine (HN.out).mono ?_
  rintro e w1 ⟨rfl, hB, hO⟩
  have HB := Lib.hid hB
  have HO := Lib.hid hO
  clear hB hO
  go_wp2_with fail
  refine wp_loop_rounds 1 ?_
  rw [rounds_succ]
  go_wp2
  go_ret
  exact ⟨rfl, HB.out, HO.out⟩
theorem rstrs_bad {w : World} {g : Nat} {A : Option Addr} {cap : Nat} {bs : List UInt8} {pos many most : Nat} (h : Rd w g A cap bs pos .nilIface []) (hm : many ≤ 1000) (hmost : most ≤ 1073741824)
    (hp : natP (bs.drop pos) = none ∨ ∃ n sz, natP (bs.drop pos) = some (n, sz) ∧ (many < n ∨ textsP most n (bs.drop (pos + sz)) = none)) :
    Calls Tryd.prog 51 #[.pointer (some ⟨g, 0, none⟩), .int .i64 (many : Int), .int .i64 (most : Int)] w fun e w' => e = .returned (.slice none 0 0) ∧ Bad w' g A cap bs ∧ Only g w w' := by
  rcases hp with hp | ⟨n, sz, hp, hl | ht⟩
  · exact rstrs_zero (count_bad h hp (by omega))
  · refine rstrs_zero ((count_long h hp hl (by omega)).mono ?_)
    rintro e w' ⟨rfl, ⟨t, u, hR⟩, hO⟩
    exact ⟨rfl, ⟨_, _, _, _, by decide, by decide, by decide, hR⟩, hO⟩
  · by_cases hl : many < n
    · refine rstrs_zero ((count_long h hp hl (by omega)).mono ?_)
      rintro e w' ⟨rfl, ⟨t, u, hR⟩, hO⟩
      exact ⟨rfl, ⟨_, _, _, _, by decide, by decide, by decide, hR⟩, hO⟩
    · exact rstrs_some h hp (by omega) hm ht hmost
end Go.Proofs.YtakdhhapckcnaaaDoor
