/- slices.IndexFunc over commits. -/
import Derived.Test.YtoidfkcecggjfaaDoorZValC
set_option linter.unusedSimpArgs false
set_option linter.unusedVariables false
set_option linter.unnecessarySimpa false
namespace Go.Proofs.YtoidfkcecggjfaaDoor
open Go.RowKit Go.Shelf

/-- The commits of a history are good: rising, and few. -/
def Good (C : List (List K)) : Prop := ∀ ks ∈ C, ks.Pairwise (· < ·) ∧ ks.length ≤ 1000000
/-- Where the first commit stands that wrote one of some texts. -/
def hitP (C : List (List K)) (reads : List K) : Option Nat := C.findIdx? fun ks => meets ks reads
def idxP (r : Option Nat) : Int := match r with
  | none => -1
  | some i => (i : Int)
set_option maxRecDepth 100000 in
set_option maxHeartbeats 1000000 in
theorem ask_any {W : World} {b : Nat} {u rv : Value} {ks reads : List K} (hu : RowIs W 1 u ks.length (strs ks)) (hb : W.cell? ⟨b, 0, none⟩ = some rv) (hr : RowIs W 1 rv reads.length (strs reads)) (hl : ks.length ≤ 1000000) (hl2 : reads.length ≤ 1000000) (hs : ks.Pairwise (· < ·)) :
    Calls Tryd.prog 32 #[u, .pointer (some ⟨b, 0, none⟩)] W fun e w' => e = .returned (.bool (meets ks reads)) ∧ Below W.heap.size W w' := by
  obtain ⟨Au, cu, rfl, _⟩ := id hu.form
  obtain ⟨Ar, cr, rfl, _⟩ := id hr.form
  have HM := Lib.hid (meet_any hu hr hl hl2 hs)
  clear hu hr hs
  go_enter Tryd.func32, Tryd.ntmps32
  go_wp2_with fail
  refine (HM.out).mono ?_
  rintro e w' ⟨rfl, hb2⟩
  go_wp2_with fail
  go_ret
  exact ⟨rfl, hb2⟩
/-- What a slice of a row's commits holds, behind the first s ones. -/
def CommAt (w : World) (g s : Nat) (C : List (List K)) : Prop := ∀ (i : Nat) (ks : List K), C[i]? = some ks → ∃ u, w.cell? ⟨g, s + i, none⟩ = some u ∧ RowIs w 1 u ks.length (strs ks)
theorem CommAt.below {w w' : World} {g s : Nat} {C : List (List K)} (h : CommAt w g s C) (hb : Below w.heap.size w w') : CommAt w' g s C := fun i ks hi => by
  obtain ⟨u, hu, hr⟩ := h i ks hi
  exact ⟨u, (hb.cell (p := ⟨g, s + i, none⟩) (World.block_lt_of_cell? _ _ hu)).trans hu, hr.below hb⟩
set_option maxRecDepth 100000 in
set_option maxHeartbeats 4000000 in
theorem index_any {w : World} {C : List (List K)} {A : Option Addr} {cap g s b : Nat} {rv : Value} {reads : List K} (hA : C ≠ [] → A = some ⟨g, s, none⟩) (hC : CommAt w g s C) (hcap : C.length ≤ cap) (hmax : cap ≤ maxLen) (hG : Good C) (hl : C.length ≤ 1000000) (hb : w.cell? ⟨b, 0, none⟩ = some rv) (hr : RowIs w 1 rv reads.length (strs reads)) (hl2 : reads.length ≤ 1000000) :
    Calls Tryd.prog 31 #[.slice A C.length cap, .func (.func 32) #[] #[.pointer (some ⟨b, 0, none⟩)]] w fun e w' => e = .returned (.int .i64 (idxP (hitP C reads))) ∧ Below w.heap.size w w' := by
  have hlI : (C.length : Int) ≤ 1000000 := by omega
  have HC := Lib.hid hC
  have HG := Lib.hid hG
  have HBX := Lib.hid hb
  have HR := Lib.hid hr
  have HA := Lib.hid hA
  have hbl : b < w.heap.size := World.block_lt_of_cell? _ _ hb
  unfold maxLen at hmax
  obtain ⟨res, hres⟩ : ∃ res, res = (idxP (hitP C reads)) := ⟨_, rfl⟩
  rw [← hres]
  have HRES := Lib.hid hres
  clear hC hG hb hr hA hres
  go_enter Tryd.func31, Tryd.ntmps31
  go_wp2_with fail
  go_loopw [8] (fun iv wr => ∃ k : Nat, k ≤ C.length ∧ iv = .int .i64 k ∧ Below w.heap.size w wr ∧ ∀ (j : Nat) (ks : List K), j < k → C[j]? = some ks → meets ks reads = false) (fun iv _ => C.length - (intOf iv).toNat)
  case atStart => exact ⟨0, Nat.zero_le _, rfl, Below.refl _ _, fun j ks hj => by omega⟩
  case round =>
    obtain ⟨k, hk, rfl, hbw, hno⟩ := hrel
    have HB := Lib.hid hbw
    have HNO := Lib.hid hno
    by_cases hlt : k < C.length
    · have hx : C[k]? = some C[k] := List.getElem?_eq_getElem hlt
      generalize C[k] = ks at hx
      have hA := HA.out (by intro e; rw [e] at hlt; simp at hlt)
      subst hA
      obtain ⟨u, hu, hru⟩ := (HC.out.below hbw) k ks hx
      have hcell : wr.cell? (⟨g, s, none⟩ : Addr) = wr.cell? ⟨g, s, none⟩ := rfl
      obtain ⟨Au, cu, rfl, _⟩ := id hru.form
      have HX := Lib.hid hx
      have HLT := Lib.hid hlt
      have hi : (k : Int) < (C.length : Int) := by omega
      obtain ⟨hs, hkl⟩ := HG.out ks (List.mem_of_getElem? hx)
      have HQ := Lib.hid (ask_any hru ((hbw.cell (p := ⟨b, 0, none⟩) hbl).trans HBX.out) (HR.out.below hbw) hkl hl2 hs)
      clear hx hbw hno hlt hk hru hs hcell
      go_wp2_with fail
      refine (HQ.out).mono ?_
      rintro e w' ⟨rfl, hb2⟩
      have HB2 := Lib.hid (HB.out.trans (hb2.mono HB.out.size))
      clear hb2 HQ
      cases hm : meets ks reads with
      | true =>
        have HF : Hid (res = (k : Int)) := Lib.hid (by
          have h1 : hitP C reads = some k := by
            unfold hitP
            rw [List.findIdx?_eq_some_iff_getElem]
            refine ⟨HLT.out, ?_, fun j hj => ?_⟩
            · rw [(List.getElem?_eq_some_iff.1 HX.out).2]; exact hm
            · have := HNO.out j _ hj (List.getElem?_eq_getElem (by have := HLT.out; omega))
              simp [this]
          rw [HRES.out, h1]; rfl)
        clear hm
        go_wp2_with fail
        go_ret
        rw [HF.out]
        exact ⟨rfl, HB2.out⟩
      | false =>
        have HN : Hid (∀ (j : Nat) (ks : List K), j < k + 1 → C[j]? = some ks → meets ks reads = false) := Lib.hid (fun j ks' hj hjk => by
          by_cases e : j < k
          · exact HNO.out j ks' e hjk
          · obtain rfl : j = k := by omega
            have := HX.out
            rw [hjk] at this
            rw [Option.some.inj this]
            exact hm)
        clear hm
        go_wp2_with fail
        go_roundw
        case rel => exact ⟨k + 1, HLT.out, by go_num, HB2.out, HN.out⟩
        case measure => have := HLT.out; simp [intOf]; omega
    · obtain rfl : k = C.length := by omega
      have HF : Hid (res = -1) := Lib.hid (by
        have h1 : hitP C reads = none := by
          unfold hitP
          rw [List.findIdx?_eq_none_iff]
          intro ks hks
          obtain ⟨j, hj⟩ := List.mem_iff_getElem?.1 hks
          exact HNO.out j ks (List.getElem?_eq_some_iff.1 hj).1 hj
        rw [HRES.out, h1]; rfl)
      clear hbw hno hk hlt
      go_wp2_with fail
      go_ret
      rw [HF.out]
      exact ⟨rfl, HB.out⟩
end Go.Proofs.YtoidfkcecggjfaaDoor
