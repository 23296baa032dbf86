/- The place of a time's version, walked; errors. -/
import Derived.Test.YtmaokoekbjjgfaaDoorZChaB
set_option linter.unusedSimpArgs false
set_option linter.unusedVariables false
set_option linter.unnecessarySimpa false
namespace Go.Proofs.YtmaokoekbjjgfaaDoor
open Go.RowKit Go.Shelf Go.Sort Go.Lib

set_option maxRecDepth 100000 in
set_option maxHeartbeats 4000000 in
theorem last_any {w : World} {c : Nat} {v : Value} {L : List Ver} {t : Int} (h : ChAt w c v L) (hr : Ris L) (hl : L.length ≤ 1000000) :
    Calls Tryd.prog 45 #[.pointer (some ⟨c, 0, none⟩), .int .i64 t] w fun e w' => e = .returned (.int .i64 ((cnt L t : Int) - 1)) ∧ Below w.heap.size w w' := by
  obtain ⟨A, cap, ev, hc1, hc2, _⟩ := h.row.form
  subst ev
  unfold maxLen at hc2
  have hlI : (L.length : Int) ≤ 1000000 := by omega
  have hcl := cnt_le L t
  have hcI : (cnt L t : Int) ≤ 1000000 := by omega
  have hb1 := below_new (w := w) (.cells #[.pointer (some ⟨c, 0, none⟩)] 23)
  have hb2 : Below w.heap.size w ((w.alloc (.cells #[.pointer (some ⟨c, 0, none⟩)] 23)).alloc (.cells #[.int .i64 t] 3)) := hb1.trans ((below_new _).mono (by rw [asz]; omega))
  have ht := h.below hb2
  have kc := cell_of ht.head 0
  have kc' : ((w.alloc (.cells #[.pointer (some ⟨c, 0, none⟩)] 23)).alloc (.cells #[.int .i64 t] 3)).cell? ⟨c, 0, none⟩ = some (.slice A L.length cap) := kc
  have k0 : ((w.alloc (.cells #[.pointer (some ⟨c, 0, none⟩)] 23)).alloc (.cells #[.int .i64 t] 3)).cell? ⟨w.heap.size, 0, none⟩ = some (.pointer (some ⟨c, 0, none⟩)) := by
    rw [World.cell?_of_block (a := ⟨w.heap.size, 0, none⟩) (Below.heap_alloc _ _ _ (by show w.heap.size < _; rw [asz]; omega))]
    exact cell_of (alloc_at w _) 0
  have k1 : ((w.alloc (.cells #[.pointer (some ⟨c, 0, none⟩)] 23)).alloc (.cells #[.int .i64 t] 3)).cell? ⟨w.heap.size + 1, 0, none⟩ = some (.int .i64 t) := by
    have := cell_of (alloc_at (w.alloc (.cells #[.pointer (some ⟨c, 0, none⟩)] 23)) (.cells #[.int .i64 t] 3)) 0
    rw [asz] at this
    exact this
  have hs2 : ((w.alloc (.cells #[.pointer (some ⟨c, 0, none⟩)] 23)).alloc (.cells #[.int .i64 t] 3)).heap.size = w.heap.size + 2 := by rw [asz, asz]
  have hS := Any.sort_Search Tryd.searchA 53 #[.pointer (some ⟨w.heap.size, 0, none⟩), .pointer (some ⟨w.heap.size + 1, 0, none⟩)] L.length (fun i => match L[i]? with | none => true | some u => decide (t < u.at_))
    ((w.alloc (.cells #[.pointer (some ⟨c, 0, none⟩)] 23)).alloc (.cells #[.int .i64 t] 3)) (enters_of Tryd.func53 (by kernel_rfl) rfl) (by omega) (fun m os i hi => by
      have hu : L[i]? = some L[i] := List.getElem?_eq_getElem hi
      have hbg : Below ((w.alloc (.cells #[.pointer (some ⟨c, 0, none⟩)] 23)).alloc (.cells #[.int .i64 t] 3)).heap.size ((w.alloc (.cells #[.pointer (some ⟨c, 0, none⟩)] 23)).alloc (.cells #[.int .i64 t] 3)) (grow (((w.alloc (.cells #[.pointer (some ⟨c, 0, none⟩)] 23)).alloc (.cells #[.int .i64 t] 3)).drewN m) os) := below_grown_drew _ m os
      have h1 := ask_any (W := grow (((w.alloc (.cells #[.pointer (some ⟨c, 0, none⟩)] 23)).alloc (.cells #[.int .i64 t] 3)).drewN m) os) (t := t) (ht.below hbg) ((hbg.cell (p := ⟨w.heap.size, 0, none⟩) (by rw [hs2]; show w.heap.size < _; omega)).trans k0) ((hbg.cell (p := ⟨w.heap.size + 1, 0, none⟩) (by rw [hs2]; show w.heap.size + 1 < _; omega)).trans k1) hu hl
      refine h1.mono ?_
      rintro e w' ⟨rfl, rfl⟩
      refine ⟨?_, 1, #[], (grow_nil _).symm⟩
      rw [hu]) (fun a b hab hb ha => by
      have hu : L[b]? = some L[b] := List.getElem?_eq_getElem hb
      have hv : L[a]? = some (L[a]'(by omega)) := List.getElem?_eq_getElem _
      rw [hv] at ha
      rw [hu]
      have ha : t < (L[a]'(by omega)).at_ := by simpa using ha
      show decide (t < L[b].at_) = true
      by_cases e : a = b
      · subst e; simpa using ha
      · have := List.pairwise_iff_getElem.1 hr a b (by omega) hb (by omega)
        simp
        omega)
  rw [cnt_range (t := t) (fun i => match L[i]? with | none => true | some u => decide (t < u.at_)) (fun i u hu => by simp [hu])] at hS
  have HS : Hid (Calls Tryd.prog 52 #[.int .i64 L.length, .func (.func 53) #[] #[.pointer (some ⟨w.heap.size, 0, none⟩), .pointer (some ⟨w.heap.size + 1, 0, none⟩)]] ((w.alloc (.cells #[.pointer (some ⟨c, 0, none⟩)] 23)).alloc (.cells #[.int .i64 t] 3)) fun e w' => e = .returned (.int .i64 (cnt L t : Nat)) ∧ ∃ q os, w' = grow (((w.alloc (.cells #[.pointer (some ⟨c, 0, none⟩)] 23)).alloc (.cells #[.int .i64 t] 3)).drewN q) os) := Lib.hid hS
  have HB2 := Lib.hid hb2
  clear hS hb1 hb2 ht kc k1 hcl hs2 h
  go_enter Tryd.func45, Tryd.ntmps45
  go_wp2_with fail
  refine (HS.out).mono ?_
  rintro e w2 ⟨rfl, q, os, rfl⟩
  have HB3 := Lib.hid (HB2.out.trans ((below_grown_drew _ q os).mono HB2.out.size))
  generalize grow (((w.alloc (.cells #[.pointer (some ⟨c, 0, none⟩)] 23)).alloc (.cells #[.int .i64 t] 3)).drewN q) os = w3 at *
  clear kc' k0 HS HB2
  go_wp2_with fail
  go_ret
  exact ⟨rfl, HB3.out⟩
end Go.Proofs.YtmaokoekbjjgfaaDoor
