/- The reader of package octet, where what is read is not there: count and Str. -/
import Derived.Test.YtakdhhapckcnaaaDoorOctH
set_option linter.unusedSimpArgs false
set_option linter.unusedVariables false
set_option linter.unnecessarySimpa false
namespace Go.Proofs.YtakdhhapckcnaaaDoor
open Go.RowKit

/-- A reader of which something was wrong. -/
def Bad (w : World) (g : Nat) (A : Option Addr) (cap : Nat) (bs : List UInt8) : Prop :=
  ∃ (p : Nat) (e : Int) (t : TypeId) (u : Value), e ≠ 0 ∧ e < 100 ∧ 0 < e ∧ Rd w g A cap bs p (.iface t u) [.plc p, .num e]
set_option maxRecDepth 100000 in
set_option maxHeartbeats 2000000 in
theorem count_bad {w : World} {g : Nat} {A : Option Addr} {cap : Nat} {bs : List UInt8} {pos most : Nat} (h : Rd w g A cap bs pos .nilIface []) (hp : natP (bs.drop pos) = none) (hm64 : most ≤ 1073741824) :
    Calls Tryd.prog 74 #[.pointer (some ⟨g, 0, none⟩), .int .i64 (most : Int)] w fun e w' => e = .returned (.int .i64 0) ∧ Bad w' g A cap bs ∧ Only g w w' := by
  have HG := Lib.hid (good_yes h)
  have HN := Lib.hid (rnat_bad h hp)
  have c1 := cell_of_row w g 1 _ _ _ h.blk
  simp at c1
  have q2 : (0 : Int) ≤ (most : Int) := by omega
  have q3 : (most : Int) ≤ 1073741824 := by omega
  clear h hp
  go_enter Tryd.func74, Tryd.ntmps74
  go_wp2_with fail
  refine (HG.out).mono ?_
  rintro e w' ⟨rfl, rfl⟩
  go_wp2_with fail
  refine (HN.out).mono ?_
  rintro e w1 ⟨rfl, ⟨t, u, hR⟩, hO⟩
  have HR := Lib.hid hR
  have HO := Lib.hid hO
  clear hR hO c1
  go_wp2
  go_ret
  exact ⟨rfl, ⟨_, _, _, _, by decide, by decide, by decide, HR.out⟩, HO.out⟩
set_option maxRecDepth 100000 in
set_option maxHeartbeats 2000000 in
theorem rstr_none {w : World} {g : Nat} {A : Option Addr} {cap : Nat} {bs : List UInt8} {pos most : Nat} (h : Rd w g A cap bs pos .nilIface []) (hp : natP (bs.drop pos) = none) (hm64 : most ≤ 1073741824) :
    Calls Tryd.prog 49 #[.pointer (some ⟨g, 0, none⟩), .int .i64 (most : Int)] w fun e w' => e = .returned (.string ⟨#[]⟩) ∧ Bad w' g A cap bs ∧ Only g w w' := by
  have HG := Lib.hid (good_yes h)
  have HN := Lib.hid (count_bad h hp hm64)
  have c1 := cell_of_row w g 1 _ _ _ h.blk
  simp at c1
  clear h hp
  go_enter Tryd.func49, Tryd.ntmps49
  go_wp2_with fail
  refine (HG.out).mono ?_
  rintro e w' ⟨rfl, rfl⟩
  go_wp2_with fail
  refine (HN.out).mono ?_
  rintro e w1 ⟨rfl, hB, hO⟩
  have HB := Lib.hid hB
  obtain ⟨p, e, t, u, _, _, _, hR⟩ := hB
  have HO := Lib.hid hO
  have HG2 := Lib.hid (good_no hR)
  clear hR hO c1
  go_wp2_with fail
  refine (HG2.out).mono ?_
  rintro e w' ⟨rfl, rfl⟩
  go_wp2
  go_ret
  exact ⟨rfl, HB.out, HO.out⟩
set_option maxRecDepth 100000 in
set_option maxHeartbeats 2000000 in
theorem rstr_cut {w : World} {g : Nat} {A : Option Addr} {cap : Nat} {bs : List UInt8} {pos n sz most : Nat} (h : Rd w g A cap bs pos .nilIface []) (hp : natP (bs.drop pos) = some (n, sz)) (hmost : n ≤ most) (hm64 : most ≤ 1073741824) (hend : bs.length < pos + sz + n) :
    Calls Tryd.prog 49 #[.pointer (some ⟨g, 0, none⟩), .int .i64 (most : Int)] w fun e w' => e = .returned (.string ⟨#[]⟩) ∧ Bad w' g A cap bs ∧ Only g w w' := by
  have HG := Lib.hid (good_yes h)
  have hN := count_ok h hp hmost hm64
  have c1 := cell_of_row w g 1 _ _ _ h.blk
  simp at c1
  have hpl := h.pos_le
  clear h hp
  generalize hps : pos + sz = p at *
  have HN := Lib.hid hN
  clear hN
  go_enter Tryd.func49, Tryd.ntmps49
  go_wp2_with fail
  refine (HG.out).mono ?_
  rintro e w' ⟨rfl, rfl⟩
  go_wp2_with fail
  refine (HN.out).mono ?_
  rintro e w1 ⟨rfl, hR, hO⟩
  have HR := Lib.hid hR
  have HO := Lib.hid hO
  have HG2 := Lib.hid (good_yes hR)
  have HL := Lib.hid (left_any hR)
  clear hR hO c1 hps
  have q4 : (bs.length : Int) - (p : Int) < (n : Int) := by omega
  go_wp2_with fail
  refine (HG2.out).mono ?_
  rintro e w' ⟨rfl, rfl⟩
  go_wp2_with fail
  refine (HL.out).mono ?_
  rintro e w2 ⟨rfl, k2, rfl⟩
  go_wp2_with fail
  refine (wrong_any pos 6 (by decide) hpl (HR.out.below (below_drewN (Below.refl _ _) k2))).mono ?_
  rintro e w3 ⟨rfl, ⟨ev, hR2⟩, hO2⟩
  obtain ⟨t, u, rfl⟩ := hR2.err.form1
  have HR2 := Lib.hid hR2
  have HO2 := Lib.hid ((Only.of_below (below_drewN (Below.refl _ _) _)).trans hO2)
  clear hR2 hO2
  go_wp2
  go_ret
  exact ⟨rfl, ⟨_, _, _, _, by decide, by decide, by decide, HR2.out⟩, HO.out.trans HO2.out⟩
theorem rstr_bad {w : World} {g : Nat} {A : Option Addr} {cap : Nat} {bs : List UInt8} {pos most : Nat} (h : Rd w g A cap bs pos .nilIface []) (hp : strP most (bs.drop pos) = none) (hm64 : most ≤ 1073741824) :
    Calls Tryd.prog 49 #[.pointer (some ⟨g, 0, none⟩), .int .i64 (most : Int)] w fun e w' => e = .returned (.string ⟨#[]⟩) ∧ Bad w' g A cap bs ∧ Only g w w' := by
  unfold strP at hp
  split at hp
  · rename_i hn
    exact rstr_none h hn hm64
  · rename_i n sz hn
    split at hp
    · rename_i hl
      refine (rstr_long h hn hl hm64).mono ?_
      rintro e w' ⟨rfl, ⟨t, u, hR⟩, hO⟩
      exact ⟨rfl, ⟨_, _, _, _, by decide, by decide, by decide, hR⟩, hO⟩
    · split at hp
      · rename_i hl hc
        rw [List.length_drop] at hc
        exact rstr_cut h hn (by omega) hm64 (by have := h.pos_le; omega)
      · cases hp
end Go.Proofs.YtakdhhapckcnaaaDoor
