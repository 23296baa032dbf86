/- The reader of package octet: Num, where it is not there; End; Of of any bytes. (Of stage 1's OctK, OctP.) -/
import Derived.Test.YtfaaeacgmlklhaaDoorZOmpE
set_option linter.unusedSimpArgs false
set_option linter.unusedVariables false
set_option linter.unnecessarySimpa false
namespace Go.Proofs.YtfaaeacgmlklhaaDoor
open Go.RowKit Go.Shelf Go.Lib


set_option maxRecDepth 100000 in
set_option maxHeartbeats 2000000 in
theorem rnum_bad {w : World} {g : Nat} {A : Option Addr} {cap : Nat} {bs : List UInt8} {pos : Nat} (h : Rd w g A cap bs pos .nilIface []) (hp : natP (bs.drop pos) = none) :
    Calls Tryd.prog 57 #[.pointer (some ⟨g, 0, none⟩)] w fun e w' => e = .returned (.int .i64 0) ∧ Bad w' g A cap bs ∧ Only g w w' := by
  have HN := Lib.hid (rnat_bad h hp)
  clear h hp
  go_enter Tryd.func57, Tryd.ntmps57
  go_wp2_with fail
  refine (HN.out).mono ?_
  rintro e w1 ⟨rfl, ⟨t, u, hR⟩, hO⟩
  have HR := Lib.hid hR
  have HO := Lib.hid hO
  clear hR hO
  go_wp2
  go_ret
  exact ⟨rfl, ⟨_, _, _, _, by decide, by decide, by decide, HR.out⟩, HO.out⟩
theorem Bad.numOk {p : Nat} {e : Int} (h0 : 0 < e) (h1 : e < 100) : NumOk [Lk.plc (p : Int), Lk.num e] := by
  intro x hx
  simp at hx
  omega
set_option maxRecDepth 100000 in
set_option maxHeartbeats 1000000 in
theorem rend_bad {w : World} {g : Nat} {A : Option Addr} {cap : Nat} {bs : List UInt8} (hG : Glob w) (h : Bad w g A cap bs) :
    Calls Tryd.prog 24 #[.pointer (some ⟨g, 0, none⟩)] w fun e w' => (∃ x : Int, e = .returned (.int .i64 x) ∧ x ≠ 0) ∧ Below w.heap.size w w' := by
  obtain ⟨p, e, t, u, he, he1, he0, h⟩ := h
  have HG := Lib.hid (good_no h)
  have HE := Lib.hid (rerr_any hG h (Bad.numOk he0 he1) (by show 2 < 1000; omega))
  clear h hG
  go_enter Tryd.func24, Tryd.ntmps24
  go_wp2_with fail
  refine (HG.out).mono ?_
  rintro e' w' ⟨rfl, rfl⟩
  go_wp2_with fail
  refine (HE.out).mono ?_
  rintro e' w3 ⟨rfl, hb⟩
  rw [show codeOf [Lk.plc (p : Int), Lk.num e] = e from rfl]
  have HB := Lib.hid hb
  clear hb
  go_wp2
  go_ret
  exact ⟨⟨e, rfl, he⟩, HB.out⟩
set_option maxRecDepth 100000 in
set_option maxHeartbeats 1000000 in
theorem rend_left {w : World} {g : Nat} {A : Option Addr} {cap : Nat} {bs : List UInt8} {pos : Nat} (hG : Glob w) (hg : g ≠ 1) (h : Rd w g A cap bs pos .nilIface []) (hlt : pos < bs.length) :
    Calls Tryd.prog 24 #[.pointer (some ⟨g, 0, none⟩)] w fun e w' => (∃ x : Int, e = .returned (.int .i64 x) ∧ x ≠ 0) ∧ Only g w w' := by
  have HG := Lib.hid (good_yes h)
  have HL := Lib.hid (left_any h)
  have H := Lib.hid h
  have HGl := Lib.hid hG
  have c1 := cell_of_row w g 1 _ _ _ h.blk
  simp at c1
  have q : (0 : Int) < (bs.length : Int) - (pos : Int) := by omega
  clear h hG
  go_enter Tryd.func24, Tryd.ntmps24
  go_wp2_with fail
  refine (HG.out).mono ?_
  rintro e w' ⟨rfl, rfl⟩
  go_wp2_with fail
  refine (HL.out).mono ?_
  rintro e w2 ⟨rfl, k2, rfl⟩
  go_wp2_with fail
  refine (wrong_any pos 6 (by decide) (by omega) (H.out.below (below_drewN (Below.refl _ _) k2))).mono ?_
  rintro e w3 ⟨rfl, ⟨ev, hR2⟩, hO2⟩
  have HO2 := Lib.hid ((Only.of_below (below_drewN (Below.refl _ _) _)).trans hO2)
  have HG3 : Glob w3 := (World.cell?_of_block (a := ⟨1, 0, none⟩) (HO2.out.block 1 HGl.out.lt (Ne.symm hg))).trans HGl.out
  have HE := Lib.hid (rerr_any HG3 hR2 (Bad.numOk (by decide) (by decide)) (by show 2 < 1000; omega))
  clear hR2 hO2
  go_wp2_with fail
  refine (HE.out).mono ?_
  rintro e' w4 ⟨rfl, hb⟩
  rw [show codeOf [Lk.plc (pos : Int), Lk.num 6] = 6 from rfl]
  have HB := Lib.hid (HO2.out.below_after hb HO2.out.size)
  clear hb
  go_wp2
  go_ret
  exact ⟨⟨6, rfl, by decide⟩, HB.out⟩


set_option maxRecDepth 100000 in
set_option maxHeartbeats 1000000 in
theorem of_any {w : World} {v : Value} {l : List UInt8} (h : BIs w v l) (hl : l.length ≤ 1073741824) :
    Calls Tryd.prog 20 #[v] w fun e w' => ∃ g A cap', e = .returned (.pointer (some ⟨g, 0, none⟩)) ∧ w.heap.size ≤ g ∧ Rd w' g A cap' l 0 .nilIface [] ∧ Below w.heap.size w w' := by
  have HC := Lib.hid (clone_any h hl)
  obtain ⟨A0, cap0, rfl, _, _, h3⟩ := h
  clear h3
  go_enter Tryd.func20, Tryd.ntmps20
  go_wp2_with fail
  refine (HC.out).mono ?_
  rintro e w1 ⟨v, rfl, hown, hb⟩
  have HO := Lib.hid hown
  have HB := Lib.hid hb
  obtain ⟨A, cap', rfl, hf⟩ : ∃ A cap', v = .slice A l.length cap' ∧ l.length ≤ cap' ∧ cap' ≤ maxLen ∧ ∀ i b, l[i]? = some b → ∃ gb, A = some ⟨gb, 0, none⟩ ∧ gb < w1.heap.size ∧ w1.cell? ⟨gb, i, none⟩ = some (.int .u8 (b.toNat : Int)) := by
    rcases hown with ⟨rfl, rfl⟩ | ⟨g, c, rfl, h⟩
    · exact ⟨_, _, rfl, Nat.zero_le _, by unfold maxLen; omega, fun i b hi => by simp at hi⟩
    · exact ⟨_, _, rfl, h.le, h.max, fun i b hi => ⟨g, rfl, h.lt, h.holds i b hi⟩⟩
  have HF := Lib.hid hf
  clear hown hb hf
  go_wp2
  go_ret
  have hA : Below w1.heap.size w1 (w1.alloc (.cells #[.slice A l.length cap', .int .i64 0, .nilIface] 79)) := (Below.refl _ _).alloc (Nat.le_refl _) _
  refine ⟨w1.heap.size, A, cap', rfl, HB.out.size, ⟨heap_alloc_new w1 _, rfl, HF.out.1, HF.out.2.1, Nat.zero_le _, fun i b hi => ?_⟩, HB.out.trans (hA.mono HB.out.size)⟩
  obtain ⟨gb, q1, q2, q3⟩ := HF.out.2.2 i b hi
  exact ⟨gb, q1, by omega, Nat.lt_of_lt_of_le q2 hA.size, (hA.cell (p := ⟨gb, i, none⟩) q2).trans q3⟩
end Go.Proofs.YtfaaeacgmlklhaaDoor
