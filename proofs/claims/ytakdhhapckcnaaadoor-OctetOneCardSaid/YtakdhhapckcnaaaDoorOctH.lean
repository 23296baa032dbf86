/- The reader of package octet, where what is read is not there: Nat. -/
import Derived.Test.YtakdhhapckcnaaaDoorOctG
set_option linter.unusedSimpArgs false
set_option linter.unusedVariables false
set_option linter.unnecessarySimpa false
namespace Go.Proofs.YtakdhhapckcnaaaDoor
open Go.RowKit

set_option maxRecDepth 100000 in
set_option maxHeartbeats 2000000 in
theorem rnat_bad1 {w : World} {g : Nat} {A : Option Addr} {cap : Nat} {bs : List UInt8} {pos : Nat} (h : Rd w g A cap bs pos .nilIface []) (hlt : pos < bs.length) (hp : natP (bs.drop pos) = none) :
    Calls Tryd.prog 47 #[.pointer (some ⟨g, 0, none⟩)] w fun e w' => e = .returned (.int .u64 0) ∧ (∃ t u, Rd w' g A cap bs pos (.iface t u) [.plc pos, .num 6]) ∧ Only g w w' := by
  obtain ⟨gb, rfl, hgg, hgl, _⟩ := h.byt 0 bs[0] (List.getElem?_eq_getElem (by omega))
  have hm := h.max
  unfold maxLen at hm
  have hle := h.le
  have H72 := Lib.hid (fun k : Nat => nat_none (w := w.drewN k) (a := some ⟨gb, pos, none⟩) (N := bs.length - pos) (cap := cap - pos) (l := bs.drop pos) (by rw [List.length_drop]) (by omega) (fun _ => ⟨gb, pos, rfl, fun i b hi => by
    rw [List.getElem?_drop] at hi
    obtain ⟨gb', he, _, _, hc⟩ := h.byt (pos + i) b hi
    cases he; exact hc⟩) hp)
  have HG := Lib.hid (good_yes h)
  have c0 := cell_of_row w g 0 _ _ _ h.blk
  have c1 := cell_of_row w g 1 _ _ _ h.blk
  simp at c0 c1
  have H := Lib.hid h
  have q1 : pos ≤ cap := by omega
  have q2 : pos ≤ bs.length := by omega
  have q3 : ¬ cap = pos := by omega
  clear h hp hm
  go_enter Tryd.func47, Tryd.ntmps47
  go_wp2_with fail
  refine (HG.out).mono ?_
  rintro e w' ⟨rfl, rfl⟩
  go_wp2_with fail
  go_quiet ((go_at_call 72; exact Calls.quiet_of_same (H72.out _)))
  go_wp2_with fail
  refine (wrong_any pos 6 (by decide) H.out.pos_le (H.out.below (below_drewN (Below.refl _ _) _))).mono ?_
  rintro e w2 ⟨rfl, ⟨ev, hR2⟩, hO2⟩
  obtain ⟨t, u, rfl⟩ := hR2.err.form1
  have HR2 := Lib.hid hR2
  have HO2 := Lib.hid ((Only.of_below (below_drewN (Below.refl _ _) _)).trans hO2)
  clear hR2 hO2
  go_wp2
  go_ret
  exact ⟨rfl, ⟨_, _, HR2.out⟩, HO2.out⟩
set_option maxRecDepth 100000 in
set_option maxHeartbeats 2000000 in
theorem rnat_bad0 {w : World} {g : Nat} {A : Option Addr} {cap : Nat} {bs : List UInt8} (h : Rd w g A cap bs bs.length .nilIface []) :
    Calls Tryd.prog 47 #[.pointer (some ⟨g, 0, none⟩)] w fun e w' => e = .returned (.int .u64 0) ∧ (∃ t u, Rd w' g A cap bs bs.length (.iface t u) [.plc bs.length, .num 6]) ∧ Only g w w' := by
  have hle := h.le
  have H72 := Lib.hid (fun (k : Nat) (a : Option Addr) (c : Nat) => nat_empty (w := w.drewN k) (a := a) (cap := c))
  have HG := Lib.hid (good_yes h)
  have c0 := cell_of_row w g 0 _ _ _ h.blk
  have c1 := cell_of_row w g 1 _ _ _ h.blk
  simp at c0 c1
  have H := Lib.hid h
  have hm := h.max
  unfold maxLen at hm
  have q5 : bs.length ≤ 9223372036854775807 := by omega
  clear h hm
  rcases A with _ | a <;> by_cases hcp : cap = bs.length
  · subst hcp
    go_enter Tryd.func47, Tryd.ntmps47
    go_wp2_with fail
    refine (HG.out).mono ?_
    rintro e w' ⟨rfl, rfl⟩
    go_wp2_with fail
    go_quiet ((go_at_call 72; exact Calls.quiet_of_same (H72.out _ _ _)))
    go_wp2_with fail
    refine (wrong_any bs.length 6 (by decide) H.out.pos_le (H.out.below (below_drewN (Below.refl _ _) _))).mono ?_
    rintro e w2 ⟨rfl, ⟨ev, hR2⟩, hO2⟩
    obtain ⟨t, u, rfl⟩ := hR2.err.form1
    have HR2 := Lib.hid hR2
    have HO2 := Lib.hid ((Only.of_below (below_drewN (Below.refl _ _) _)).trans hO2)
    clear hR2 hO2
    go_wp2
    go_ret
    exact ⟨rfl, ⟨_, _, HR2.out⟩, HO2.out⟩
  · skip
    go_enter Tryd.func47, Tryd.ntmps47
    go_wp2_with fail
    refine (HG.out).mono ?_
    rintro e w' ⟨rfl, rfl⟩
    go_wp2_with fail
    go_quiet ((go_at_call 72; exact Calls.quiet_of_same (H72.out _ _ _)))
    go_wp2_with fail
    refine (wrong_any bs.length 6 (by decide) H.out.pos_le (H.out.below (below_drewN (Below.refl _ _) _))).mono ?_
    rintro e w2 ⟨rfl, ⟨ev, hR2⟩, hO2⟩
    obtain ⟨t, u, rfl⟩ := hR2.err.form1
    have HR2 := Lib.hid hR2
    have HO2 := Lib.hid ((Only.of_below (below_drewN (Below.refl _ _) _)).trans hO2)
    clear hR2 hO2
    go_wp2
    go_ret
    exact ⟨rfl, ⟨_, _, HR2.out⟩, HO2.out⟩
  · subst hcp
    go_enter Tryd.func47, Tryd.ntmps47
    go_wp2_with fail
    refine (HG.out).mono ?_
    rintro e w' ⟨rfl, rfl⟩
    go_wp2_with fail
    go_quiet ((go_at_call 72; exact Calls.quiet_of_same (H72.out _ _ _)))
    go_wp2_with fail
    refine (wrong_any bs.length 6 (by decide) H.out.pos_le (H.out.below (below_drewN (Below.refl _ _) _))).mono ?_
    rintro e w2 ⟨rfl, ⟨ev, hR2⟩, hO2⟩
    obtain ⟨t, u, rfl⟩ := hR2.err.form1
    have HR2 := Lib.hid hR2
    have HO2 := Lib.hid ((Only.of_below (below_drewN (Below.refl _ _) _)).trans hO2)
    clear hR2 hO2
    go_wp2
    go_ret
    exact ⟨rfl, ⟨_, _, HR2.out⟩, HO2.out⟩
  · skip
    go_enter Tryd.func47, Tryd.ntmps47
    go_wp2_with fail
    refine (HG.out).mono ?_
    rintro e w' ⟨rfl, rfl⟩
    go_wp2_with fail
    go_quiet ((go_at_call 72; exact Calls.quiet_of_same (H72.out _ _ _)))
    go_wp2_with fail
    refine (wrong_any bs.length 6 (by decide) H.out.pos_le (H.out.below (below_drewN (Below.refl _ _) _))).mono ?_
    rintro e w2 ⟨rfl, ⟨ev, hR2⟩, hO2⟩
    obtain ⟨t, u, rfl⟩ := hR2.err.form1
    have HR2 := Lib.hid hR2
    have HO2 := Lib.hid ((Only.of_below (below_drewN (Below.refl _ _) _)).trans hO2)
    clear hR2 hO2
    go_wp2
    go_ret
    exact ⟨rfl, ⟨_, _, HR2.out⟩, HO2.out⟩
theorem rnat_bad {w : World} {g : Nat} {A : Option Addr} {cap : Nat} {bs : List UInt8} {pos : Nat} (h : Rd w g A cap bs pos .nilIface []) (hp : natP (bs.drop pos) = none) :
    Calls Tryd.prog 47 #[.pointer (some ⟨g, 0, none⟩)] w fun e w' => e = .returned (.int .u64 0) ∧ (∃ t u, Rd w' g A cap bs pos (.iface t u) [.plc pos, .num 6]) ∧ Only g w w' := by
  by_cases hlt : pos < bs.length
  · exact rnat_bad1 h hlt hp
  · obtain rfl : pos = bs.length := by have := h.pos_le; omega
    exact rnat_bad0 h
end Go.Proofs.YtakdhhapckcnaaaDoor
