/- The reference's Ends and New, in memory. -/
import Derived.Test.YtmaokoekbjjgfaaDoorZChdD
set_option linter.unusedSimpArgs false
set_option linter.unusedVariables false
set_option linter.unnecessarySimpa false
namespace Go.Proofs.YtmaokoekbjjgfaaDoor
open Go.RowKit Go.Shelf

theorem open_at {L : List Ver} {t : Int} (hR : Ris L) {k : Nat} {u : Ver} (hk : L[k]? = some u) (hat : u.at_ = t) (hop : u.opn = true) : openP L t = some (k, u) := by
  have hkl := (List.getElem?_eq_some_iff.1 hk).1
  have h1 := (cnt_at (t := t) hR k u hk).2 (by omega)
  have hcl := cnt_le L t
  have hv : L[cnt L t - 1]? = some (L[cnt L t - 1]'(by omega)) := List.getElem?_eq_getElem _
  have h2 := (cnt_at (t := t) hR _ _ hv).1 (by omega)
  have h3 := hR.le hk hv (by omega)
  have h4 := hR.idx hk hv (by omega)
  unfold openP
  rw [if_neg (by omega), ← h4, hk]
  simp only
  rw [if_pos ⟨hat, hop⟩]
theorem openP_none {L : List Ver} {t : Int} (h : ∀ (k : Nat) (u : Ver), L[k]? = some u → ¬ (u.at_ = t ∧ u.opn = true)) : openP L t = none := by
  rcases openP_cases (L := L) t with e | ⟨k, v, e, hv, h1, h2⟩
  · exact e
  · exact (h k v hv ⟨h1, h2⟩).elim
def endsP (L : List Ver) (t : Int) (c : Bool) : List Ver × Bool := if c then commitP L t else abortP L t
theorem ends_none {L : List Ver} {t : Int} {c : Bool} (h : openP L t = none) : endsP L t c = (L, false) := by
  unfold endsP commitP abortP
  rw [h]
  cases c <;> rfl
theorem ends_true {L : List Ver} {t : Int} {k : Nat} {u : Ver} (h : openP L t = some (k, u)) : endsP L t true = (L.set k { u with opn := false }, true) := by
  unfold endsP commitP
  rw [h]
  rfl
theorem ends_false {L : List Ver} {t : Int} {k : Nat} {u : Ver} (h : openP L t = some (k, u)) : endsP L t false = (L.eraseIdx k, true) := by
  unfold endsP abortP
  rw [h]
  rfl
set_option maxRecDepth 100000 in
set_option maxHeartbeats 8000000 in
theorem rends_any {w : World} {r : Nat} {v : Value} {L : List Ver} {t : Int} {c : Bool} (h : RAt w r v L) (hR : Ris L) (hl : L.length ≤ 1000000) :
    Calls Tryd.prog 27 #[.pointer (some ⟨r, 0, none⟩), .int .i64 t, .bool c] w fun e w' => e = .returned (.bool (endsP L t c).2) ∧ RPost w r v (endsP L t c).1 w' := by
  obtain ⟨A, cap, rfl, h1, h2, _⟩ := id (RowIs.form h.row)
  unfold maxLen at h2
  have kr : w.cell? ⟨r, 0, none⟩ = some (.slice A L.length cap) := cell_of h.head 0
  have hlI : (L.length : Int) ≤ 1000000 := by omega
  have HH := Lib.hid h
  have HRI := Lib.hid hR
  have HL := Lib.hid hl
  obtain ⟨E, hE⟩ : ∃ E, E = endsP L t c := ⟨_, rfl⟩
  rw [← hE]
  have HE := Lib.hid hE
  clear h hR hE
  go_enter Tryd.func27, Tryd.ntmps27
  go_wp2_with fail
  go_loopw [14] (fun iv wr => ∃ k : Nat, k ≤ L.length ∧ iv = .int .i64 k ∧ Below w.heap.size w wr ∧ ∀ j, j < k → ∀ u, L[j]? = some u → ¬ (u.at_ = t ∧ u.opn = true)) (fun iv _ => L.length - (intOf iv).toNat)
  case atStart => exact ⟨0, Nat.zero_le _, rfl, Below.refl _ _, fun j hj => by omega⟩
  case round =>
    obtain ⟨k, hk, rfl, hb, hno⟩ := hrel
    have HB := Lib.hid hb
    have HNO := Lib.hid hno
    by_cases hlt : k < L.length
    · have hx : L[k]? = some L[k] := List.getElem?_eq_getElem hlt
      generalize L[k] = y at hx
      have HX := Lib.hid hx
      obtain ⟨g', cap', ev, hc1, hc2, _, c0, c1, c2, c3, c4⟩ := (HH.out.row.below hb).ver hx
      injection ev with ev _ ev3
      subst ev ev3
      have HLT := Lib.hid hlt
      have hi : (k : Int) < (L.length : Int) := by omega
      obtain ⟨ua, un, ut, ur, uo⟩ := y
      simp only at c0 c1 c2 c3 c4
      by_cases hit : ua = t ∧ uo = true
      · have HOP := Lib.hid (open_at HRI.out HX.out hit.1 hit.2)
        obtain ⟨rfl, rfl⟩ := hit
        have hat := alloc_at wr (.cells #[.int .i64 ua, .int .i64 un, .bool ut, .int .i64 ur, .bool false] 59)
        have hb2 := below_new (w := wr) (.cells #[.int .i64 ua, .int .i64 un, .bool ut, .int .i64 ur, .bool false] 59)
        have hb3 := below_new (w := wr.alloc (.cells #[.int .i64 ua, .int .i64 un, .bool ut, .int .i64 ur, .bool false] 59)) (.cells #[.int .i64 ua, .int .i64 un, .bool ut, .int .i64 ur, .bool false] 59)
        have hat2 := alloc_at (wr.alloc (.cells #[.int .i64 ua, .int .i64 un, .bool ut, .int .i64 ur, .bool false] 59)) (.cells #[.int .i64 ua, .int .i64 un, .bool ut, .int .i64 ur, .bool false] 59)
        have hbA := HB.out.trans (hb2.mono HB.out.size)
        have hbC := HB.out.trans ((hb2.trans (hb3.mono (by rw [asz]; omega))).mono HB.out.size)
        cases c with
        | true =>
          have hP := rset_any (HH.out.below hbC) HL.out HX.out (y := ⟨ua, un, ut, ur, false⟩) hat2
          rw [asz] at hP
          have HP := Lib.hid hP
          have HBC := Lib.hid hbC
          have hE2 := HE.out
          rw [ends_true HOP.out] at hE2
          have HE2 := Lib.hid hE2
          clear hx hb hno hk hlt hat hb2 hb3 hat2 hbA hbC hP hE2
          go_wp2_with fail
          refine (HP.out).mono ?_
          rintro e w3 ⟨rfl, hp⟩
          have HF := Lib.hid (hp.behind HBC.out)
          clear hp HP
          go_wp2_with fail
          go_ret
          rw [HE2.out]
          exact ⟨rfl, HF.out⟩
        | false =>
          have hP := rdel_any (HH.out.below hbA) HL.out HX.out
          have HP := Lib.hid hP
          have HBC := Lib.hid hbA
          have hE2 := HE.out
          rw [ends_false HOP.out] at hE2
          have HE2 := Lib.hid hE2
          clear hx hb hno hk hlt hat hb2 hb3 hat2 hbA hbC hP hE2
          go_wp2_with fail
          refine (HP.out).mono ?_
          rintro e w3 ⟨rfl, hp⟩
          have HF := Lib.hid (hp.behind HBC.out)
          clear hp HP
          go_wp2_with fail
          go_ret
          rw [HE2.out]
          exact ⟨rfl, HF.out⟩
      · have hbn := below_new (w := wr) (.cells #[.int .i64 ua, .int .i64 un, .bool ut, .int .i64 ur, .bool uo] 59)
        have HB2 := Lib.hid (HB.out.trans (hbn.mono HB.out.size))
        have HN2 : Hid (∀ j, j < k + 1 → ∀ u, L[j]? = some u → ¬ (u.at_ = t ∧ u.opn = true)) := Lib.hid (fun j hj u hu => by
          by_cases e : j < k
          · exact HNO.out j e u hu
          · obtain rfl : j = k := by omega
            have := HX.out
            rw [hu] at this
            have := Option.some.inj this
            subst this
            exact hit)
        by_cases hq : ua = t
        · have huo : uo = false := by cases uo; rfl; exact (hit ⟨hq, rfl⟩).elim
          subst huo
          replace hq := hq.symm
          subst hq
          clear hx hb hno hk hlt hbn hit
          go_wp2_with fail
          go_roundw
          case rel => exact ⟨k + 1, HLT.out, by go_num, HB2.out, HN2.out⟩
          case measure => have := HLT.out; simp [intOf]; omega
        · have hq2 : (ua == t) = false := by rw [beq_eq_false_iff_ne]; exact hq
          clear hx hb hno hk hlt hbn hit
          go_wp2_with fail
          go_roundw
          case rel => exact ⟨k + 1, HLT.out, by go_num, HB2.out, HN2.out⟩
          case measure => have := HLT.out; simp [intOf]; omega
    · obtain rfl : k = L.length := by omega
      have hE2 := HE.out
      rw [ends_none (openP_none fun j u hu => HNO.out j (List.getElem?_eq_some_iff.1 hu).1 u hu)] at hE2
      have HE2 := Lib.hid hE2
      have HF := Lib.hid (RPost.same HH.out HB.out)
      clear hb hno hk hlt hE2
      go_wp2_with fail
      go_ret
      rw [HE2.out]
      exact ⟨rfl, HF.out⟩
set_option maxRecDepth 100000 in
set_option maxHeartbeats 4000000 in
theorem rnew_any {w : World} {n : Int} {th : Bool} : Calls Tryd.prog 8 #[.int .i64 n, .bool th] w fun e w' => ∃ r v, e = .returned (.pointer (some ⟨r, 0, none⟩)) ∧ RAt w' r v [⟨0, numT n th, th, 0, false⟩] ∧ Below w.heap.size w w' ∧ w.heap.size ≤ r ∧ ∀ k, v.ownBlock = some k → w.heap.size ≤ k := by
  have key : ∀ x : Int, RAt ((w.alloc (.cells #[.int .i64 0, .int .i64 x, .bool th, .int .i64 0, .bool false] 59)).alloc (.cells #[.slice (some ⟨w.heap.size, 0, none⟩) 1 1] 62)) (w.heap.size + 1) (.slice (some ⟨w.heap.size, 0, none⟩) 1 1) [⟨0, x, th, 0, false⟩] := fun x => by
    have hb3 := below_new (w := w.alloc (.cells #[.int .i64 0, .int .i64 x, .bool th, .int .i64 0, .bool false] 59)) (.cells #[.slice (some ⟨w.heap.size, 0, none⟩) 1 1] 62)
    have hat := alloc_at (w.alloc (.cells #[.int .i64 0, .int .i64 x, .bool th, .int .i64 0, .bool false] 59)) (.cells #[.slice (some ⟨w.heap.size, 0, none⟩) 1 1] 62)
    rw [asz] at hat
    have h0 := alloc_at w (.cells #[.int .i64 0, .int .i64 x, .bool th, .int .i64 0, .bool false] 59)
    refine ⟨hat, ?_, fun e => by have e : w.heap.size = w.heap.size + 1 := Option.some.inj e; omega⟩
    refine RowIs.below (.inr ⟨w.heap.size, 1, rfl, rfl, Nat.le_refl _, heap_lt h0, Nat.le_refl _, by unfold maxLen; omega, fun j u hj => ?_, fun j hj => ⟨?_, free0 h0 j⟩⟩) hb3
    · rw [cell_of h0 j]
      simpa [verC, verV] using hj
    · rw [cell_of h0 j, Array.getElem?_eq_getElem (by simpa using hj)]
      rfl
  have hbl : ∀ x : Int, Below w.heap.size w ((w.alloc (.cells #[.int .i64 0, .int .i64 x, .bool th, .int .i64 0, .bool false] 59)).alloc (.cells #[.slice (some ⟨w.heap.size, 0, none⟩) 1 1] 62)) := fun x => (below_new _).trans ((below_new _).mono (by rw [asz]; omega))
  have HK := Lib.hid key
  have HB := Lib.hid hbl
  clear key hbl
  cases th with
  | true =>
    go_enter Tryd.func8, Tryd.ntmps8
    go_wp2_with fail
    go_ret
    exact ⟨_, _, rfl, HK.out n, HB.out n, Nat.le_succ _, fun k e => by have e : w.heap.size = k := Option.some.inj e; omega⟩
  | false =>
    go_enter Tryd.func8, Tryd.ntmps8
    go_wp2_with fail
    go_ret
    exact ⟨_, _, rfl, HK.out 0, HB.out 0, Nat.le_succ _, fun k e => by have e : w.heap.size = k := Option.some.inj e; omega⟩
end Go.Proofs.YtmaokoekbjjgfaaDoor
