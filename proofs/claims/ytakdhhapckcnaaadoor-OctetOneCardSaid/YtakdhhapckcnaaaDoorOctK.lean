/- The reader of package octet, where what is read is not there: Num; End, where bytes are left or something was wrong. -/
import Derived.Test.YtakdhhapckcnaaaDoorOctJ
set_option linter.unusedSimpArgs false
set_option linter.unusedVariables false
set_option linter.unnecessarySimpa false
namespace Go.Proofs.YtakdhhapckcnaaaDoor
open Go.RowKit

set_option maxRecDepth 100000 in
set_option maxHeartbeats 2000000 in
theorem rnum_bad {w : World} {g : Nat} {A : Option Addr} {cap : Nat} {bs : List UInt8} {pos : Nat} (h : Rd w g A cap bs pos .nilIface []) (hp : natP (bs.drop pos) = none) :
    Calls Tryd.prog 48 #[.pointer (some ⟨g, 0, none⟩)] w fun e w' => e = .returned (.int .i64 0) ∧ Bad w' g A cap bs ∧ Only g w w' := by
  have HN := Lib.hid (rnat_bad h hp)
  clear h hp
  go_enter Tryd.func48, Tryd.ntmps48
  go_wp2_with fail
  refine (HN.out).mono ?_
  rintro e w1 ⟨rfl, ⟨t, u, hR⟩, hO⟩
  have HR := Lib.hid hR
  have HO := Lib.hid hO
  clear hR hO
  go_wp2
  go_ret
  exact ⟨rfl, ⟨_, _, _, _, by decide, by decide, by decide, HR.out⟩, HO.out⟩
theorem Bad.numOk {p : Nat} {e : Int} (h0 : 0 < e) (h1 : e < 100) : NumOk [Lk.plc (p : Int), Lk.num e] := by
  intro x hx
  simp at hx
  omega
set_option maxRecDepth 100000 in
set_option maxHeartbeats 1000000 in
theorem rend_bad {w : World} {g : Nat} {A : Option Addr} {cap : Nat} {bs : List UInt8} (hG : Glob w) (h : Bad w g A cap bs) :
    Calls Tryd.prog 56 #[.pointer (some ⟨g, 0, none⟩)] w fun e w' => (∃ x : Int, e = .returned (.int .i64 x) ∧ x ≠ 0) ∧ Below w.heap.size w w' := by
  obtain ⟨p, e, t, u, he, he1, he0, h⟩ := h
  have HG := Lib.hid (good_no h)
  have HE := Lib.hid (rerr_any hG h (Bad.numOk he0 he1) (by show 2 < 1000; omega))
  clear h hG
  go_enter Tryd.func56, Tryd.ntmps56
  go_wp2_with fail
  refine (HG.out).mono ?_
  rintro e' w' ⟨rfl, rfl⟩
  go_wp2_with fail
  refine (HE.out).mono ?_
  rintro e' w3 ⟨rfl, hb⟩
  rw [show codeOf [Lk.plc (p : Int), Lk.num e] = e from rfl]
  have HB := Lib.hid hb
  clear hb
  go_wp2
  go_ret
  exact ⟨⟨e, rfl, he⟩, HB.out⟩
set_option maxRecDepth 100000 in
set_option maxHeartbeats 1000000 in
theorem rend_left {w : World} {g : Nat} {A : Option Addr} {cap : Nat} {bs : List UInt8} {pos : Nat} (hG : Glob w) (hg : g ≠ 0) (h : Rd w g A cap bs pos .nilIface []) (hlt : pos < bs.length) :
    Calls Tryd.prog 56 #[.pointer (some ⟨g, 0, none⟩)] w fun e w' => (∃ x : Int, e = .returned (.int .i64 x) ∧ x ≠ 0) ∧ Only g w w' := by
  have HG := Lib.hid (good_yes h)
  have HL := Lib.hid (left_any h)
  have H := Lib.hid h
  have HGl := Lib.hid hG
  have c1 := cell_of_row w g 1 _ _ _ h.blk
  simp at c1
  have q : (0 : Int) < (bs.length : Int) - (pos : Int) := by omega
  clear h hG
  go_enter Tryd.func56, Tryd.ntmps56
  go_wp2_with fail
  refine (HG.out).mono ?_
  rintro e w' ⟨rfl, rfl⟩
  go_wp2_with fail
  refine (HL.out).mono ?_
  rintro e w2 ⟨rfl, k2, rfl⟩
  go_wp2_with fail
  refine (wrong_any pos 6 (by decide) (by omega) (H.out.below (below_drewN (Below.refl _ _) k2))).mono ?_
  rintro e w3 ⟨rfl, ⟨ev, hR2⟩, hO2⟩
  have HO2 := Lib.hid ((Only.of_below (below_drewN (Below.refl _ _) _)).trans hO2)
  have HG3 : Glob w3 := (World.cell?_of_block (a := ⟨0, 0, none⟩) (HO2.out.block 0 HGl.out.lt (Ne.symm hg))).trans HGl.out
  have HE := Lib.hid (rerr_any HG3 hR2 (Bad.numOk (by decide) (by decide)) (by show 2 < 1000; omega))
  clear hR2 hO2
  go_wp2_with fail
  refine (HE.out).mono ?_
  rintro e' w4 ⟨rfl, hb⟩
  rw [show codeOf [Lk.plc (pos : Int), Lk.num 6] = 6 from rfl]
  have HB := Lib.hid (HO2.out.below_after hb HO2.out.size)
  clear hb
  go_wp2
  go_ret
  exact ⟨⟨6, rfl, by decide⟩, HB.out⟩
end Go.Proofs.YtakdhhapckcnaaaDoor
