/- Abort. -/
import Derived.Test.YtmaokoekbjjgfaaDoorZChaT
set_option linter.unusedSimpArgs false
set_option linter.unusedVariables false
set_option linter.unnecessarySimpa false
namespace Go.Proofs.YtmaokoekbjjgfaaDoor
open Go.RowKit Go.Shelf

set_option maxRecDepth 100000 in
set_option maxHeartbeats 1000000 in
theorem Abort_any {w : World} {c : Nat} {v : Value} {L : List Ver} {t : Int} (h : Ch w c v L) :
    Calls Tryd.prog 19 #[.pointer (some ⟨c, 0, none⟩), .int .i64 t] w fun e w' => ∃ v', e = .returned (.bool (abortP L t).2) ∧ Ch w' c v' (abortP L t).1 ∧ Touch (fun b => b = c ∨ v.ownBlock = some b) w w' ∧ v'.ownBlock = v.ownBlock := by
  have HO := Lib.hid (open_any (t := t) h)
  have HC := Lib.hid h
  cases hp : openP L t with
  | none =>
    have hr : abortP L t = (L, false) := by unfold abortP; rw [hp]
    rw [hr]
    unfold OpenPost at HO
    rw [hp] at HO
    clear h hp hr
    go_enter Tryd.func19, Tryd.ntmps19
    go_wp2_with fail
    refine (HO.out).mono ?_
    rintro e w1 ⟨i, b, rfl, hb, h1, _⟩
    obtain rfl : b = false := h1 trivial
    have HB := Lib.hid hb
    clear hb h1 HO
    go_wp2_with fail
    go_ret
    exact ⟨v, rfl, HC.out.below HB.out, .of_below HB.out, rfl⟩
  | some x =>
    obtain ⟨k, u⟩ := x
    obtain ⟨hu, hut, hop⟩ := openP_at hp
    have hr : abortP L t = (L.eraseIdx k, true) := by unfold abortP; rw [hp]
    rw [hr]
    unfold OpenPost at HO
    rw [hp] at HO
    have hkl := (List.getElem?_eq_some_iff.1 hu).1
    have hkI : (k : Int) < (L.length : Int) := by omega
    have hlI : (L.length : Int) ≤ 1000000 := by have := h.few; omega
    have HKL := Lib.hid hkl
    have HU := Lib.hid hu
    clear h hp hr hut hop hkl hu
    go_enter Tryd.func19, Tryd.ntmps19
    go_wp2_with fail
    refine (HO.out).mono ?_
    rintro e w1 ⟨i, b, rfl, hb, _, h1⟩
    obtain ⟨rfl, rfl⟩ := h1 k u rfl
    have hC := HC.out.below hb
    rcases hC.row with ⟨_, e, _⟩ | ⟨g, cap, rfl, _, hle, hrow⟩
    · have := HKL.out; omega
    obtain ⟨m, hm⟩ : ∃ m, L.length = m + 1 := ⟨L.length - 1, by have := HKL.out; omega⟩
    have HD := Lib.hid (delete_one hrow HKL.out hle HC.out.few hm)
    have HM := Lib.hid hm
    have kc : w1.cell? ⟨c, 0, none⟩ = some (.slice (some ⟨g, 0, none⟩) L.length cap) := cell_of hC.head 0
    have hgc : g ≠ c := fun e => hC.off (by rw [e]; rfl)
    have HB := Lib.hid hb
    have HC1 := Lib.hid hC
    have HLE := Lib.hid hle
    clear hb h1 HO hC hrow hle hm
    go_wp2_with fail
    refine (HD.out).mono ?_
    rintro e w2 ⟨rfl, hr2, ht2⟩
    have hh : w2.heap[c]? = some (.cells #[.slice (some ⟨g, 0, none⟩) L.length cap] 58 (0, 0)) := (ht2.block c (heap_lt HC1.out.head) (fun e => hgc e.symm)).trans HC1.out.head
    have kc2 : w2.cell? ⟨c, 0, none⟩ = some (.slice (some ⟨g, 0, none⟩) L.length cap) := cell_of hh 0
    have fc2 := free0 hh 0
    have hlen : (L.eraseIdx k).length = m := by rw [List.length_eraseIdx, if_pos HKL.out, HM.out]; omega
    have hT : Touch (fun b => b = c ∨ some g = some b) w (w2.setCell ⟨c, 0, none⟩ (.slice (some ⟨g, 0, none⟩) m cap)) := (((Touch.of_below (S := fun b => b = c ∨ some g = some b) HB.out).trans ht2 (fun i _ e => .inr (by rw [e])))).setCell ⟨c, 0, none⟩ (fun _ => .inl rfl) _
    have hrow' : RowC (w2.setCell ⟨c, 0, none⟩ (.slice (some ⟨g, 0, none⟩) m cap)) 5 g cap (verC (L.eraseIdx k)) := hr2.keep (by simp [World.setCell]) (Below.heap_setCell _ _ _ _ hgc)
    have hgl : Glob (w2.setCell ⟨c, 0, none⟩ (.slice (some ⟨g, 0, none⟩) m cap)) := HC.out.glob.touch hT (fun e => by
      rcases e with e | e
      · have h1 := HC.out.head
        have h2 := HC.out.glob
        unfold Glob at h2
        subst e
        rw [cell_of h1 0] at h2
        cases h2
      · exact HC.out.free e)
    have HF : Hid (Ch (w2.setCell ⟨c, 0, none⟩ (.slice (some ⟨g, 0, none⟩) m cap)) c (.slice (some ⟨g, 0, none⟩) m cap) (L.eraseIdx k) ∧ Touch (fun b => b = c ∨ some g = some b) w (w2.setCell ⟨c, 0, none⟩ (.slice (some ⟨g, 0, none⟩) m cap))) := Lib.hid ⟨⟨⟨by have := set_at hh 0 (.slice (some ⟨g, 0, none⟩) m cap); simpa using this, .inr ⟨g, cap, by rw [hlen], verC_len _, by rw [hlen]; have := HLE.out; have := HM.out; omega, hrow'⟩, fun e => hgc (Option.some.inj e)⟩, HC.out.ris.erase k, by rw [hlen]; have := HC.out.few; have := HM.out; omega, fun x hx => HC.out.ok x (List.mem_of_mem_eraseIdx hx), hgl, HC.out.free⟩, hT⟩
    clear hr2 ht2 hh hlen hT hrow' hgl HD kc
    go_wp2_with fail
    go_ret
    exact ⟨_, rfl, HF.out.1, HF.out.2, rfl⟩
end Go.Proofs.YtmaokoekbjjgfaaDoor
