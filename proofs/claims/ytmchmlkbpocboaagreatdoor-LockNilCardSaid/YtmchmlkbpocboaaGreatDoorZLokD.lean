/- lock: place. -/
import Derived.Test.YtmchmlkbpocboaaGreatDoorZLokC
set_option linter.unusedSimpArgs false
set_option linter.unusedVariables false
set_option linter.unnecessarySimpa false
namespace Go.Proofs.YtmchmlkbpocboaaGreatDoor
open Go.RowKit

theorem heap_lt' {w : World} {g j : Nat} {u : Value} (h : w.cell? ⟨g, j, none⟩ = some u) : g < w.heap.size := by
  unfold World.cell? at h
  by_cases hl : g < w.heap.size
  · exact hl
  · simp [Array.getElem?_eq_none (show w.heap.size ≤ g by omega)] at h
set_option maxRecDepth 100000 in
set_option maxHeartbeats 1000000 in
theorem behind_any {w : World} {pb b gh : Nat} {rv : Value} {l : Ln} {c : Cm} (h : LnAt w b gh rv l) (hp : w.cell? ⟨pb, 0, none⟩ = some (.pointer (some ⟨b, 0, none⟩))) (hw : InR64 c.who) : Calls Tryz.prog 129 #[.agg #[.int .i64 c.who, .bool c.mine], .pointer (some ⟨pb, 0, none⟩)] w fun e w' => e = .returned (.bool (!decide (c.who ∈ l.held))) ∧ Below w.heap.size w w' := by
  have hb1 := below_new (w := w) (.cells #[.int .i64 c.who, .bool c.mine] 106)
  obtain ⟨w1, hw1⟩ : ∃ w1, w1 = w.alloc (.cells #[.int .i64 c.who, .bool c.mine] 106) := ⟨_, rfl⟩
  have hx1 := alloc_at w (.cells #[.int .i64 c.who, .bool c.mine] 106)
  rw [← hw1] at hb1 hx1
  have hp1 := (hb1.cell (p := ⟨pb, 0, none⟩) (heap_lt' hp)).trans hp
  have hp2 := hp1
  rw [hw1] at hp2
  have HO := Lib.hid (holds_any (h.below hb1) hw)
  have HW1 := Lib.hid hw1
  have HB1 := Lib.hid hb1
  obtain ⟨d, hd⟩ : ∃ d, decide (c.who ∈ l.held) = d := ⟨_, rfl⟩
  rw [hd] at HO ⊢
  clear h hb1 hw1 hx1 hd hp
  go_enter Tryz.func129, Tryz.ntmps129
  go_wp2_with fail
  rw [← HW1.out]
  refine (HO.out).mono ?_
  rintro e w2 ⟨rfl, hb2⟩
  have HB2 := Lib.hid (HB1.out.trans (hb2.mono HB1.out.size))
  clear hb2
  go_wp2_with fail
  refine bodyPost_ret (v := .bool (!d)) (by simp [results, Tryz.results129, go_sem]) rfl ⟨rfl, HB2.out⟩
/-- The first place where one stands that does not hold; -1: none. -/
def behI (l : Ln) : Int := if (l.row.any fun c => !decide (c.who ∈ l.held)) = true then (l.row.findIdx (fun c => !decide (c.who ∈ l.held)) : Int) else -1
theorem findIdx_hit {α : Type} {f : α → Bool} {l : List α} {k : Nat} {x : α} (hx : l[k]? = some x) (hf : f x = true) (hno : ∀ y ∈ l.take k, f y = false) : l.findIdx f = k := by
  obtain ⟨hl, e⟩ := List.getElem?_eq_some_iff.1 hx
  rw [List.findIdx_eq hl]
  refine ⟨by rw [e]; exact hf, fun j hj => ?_⟩
  exact hno _ (List.mem_take_iff_getElem.2 ⟨j, by omega, rfl⟩)
set_option maxRecDepth 100000 in
set_option maxHeartbeats 2000000 in
theorem behindex_any {w : World} {pb b gh : Nat} {rv : Value} {l : Ln} (h : LnAt w b gh rv l) (hp : w.cell? ⟨pb, 0, none⟩ = some (.pointer (some ⟨b, 0, none⟩))) (hl : l.row.length ≤ 100000) : Calls Tryz.prog 99 #[rv, .func (.func 129) #[] #[.pointer (some ⟨pb, 0, none⟩)]] w fun e w' => e = .returned (.int .i64 (behI l)) ∧ Below w.heap.size w w' := by
  obtain ⟨A, cap, rfl, h1, h2, hc⟩ := id h.row.form
  unfold maxLen at h2
  have HH := Lib.hid h
  have HP := Lib.hid hp
  have HC := Lib.hid hc
  have hlI : (l.row.length : Int) ≤ 100000 := by omega
  clear h hp hc
  go_enter Tryz.func99, Tryz.ntmps99
  go_wp2_with fail
  go_loopw [8] (fun iv wr => ∃ k : Nat, k ≤ l.row.length ∧ iv = .int .i64 k ∧ Below w.heap.size w wr ∧ ∀ c ∈ l.row.take k, (!decide (c.who ∈ l.held)) = false) (fun iv _ => l.row.length - (intOf iv).toNat)
  case atStart => exact ⟨0, Nat.zero_le _, rfl, Below.refl _ _, by simp⟩
  case round =>
    obtain ⟨k, hk, rfl, hbw, hno⟩ := hrel
    have HNO := Lib.hid hno
    have HB := Lib.hid hbw
    by_cases hlt : k < l.row.length
    · have hx : l.row[k]? = some l.row[k] := List.getElem?_eq_getElem hlt
      have HTK : Hid (l.row.take (k + 1) = l.row.take k ++ [l.row[k]]) := Lib.hid (List.take_succ_eq_append_getElem hlt)
      generalize l.row[k] = c at hx HTK
      obtain ⟨d0, d1⟩ := cmC_at hx
      obtain ⟨g, o, rfl, k0⟩ := HC.out _ _ d0
      obtain ⟨g', o', eg, k1⟩ := HC.out _ _ d1
      injection eg with eg
      injection eg with eg1 eg2
      subst eg1 eg2
      have q0 := (hbw.cell (p := ⟨g, o + k * 2, none⟩) (heap_lt' k0)).trans k0
      have q1 : wr.cell? ⟨g, o + k * 2 + 1, none⟩ = some (.bool c.mine) := (hbw.cell (p := ⟨g, o + (k * 2 + 1), none⟩) (heap_lt' k1)).trans k1
      have HBE := Lib.hid (behind_any (c := c) (HH.out.below hbw) ((hbw.cell (p := ⟨pb, 0, none⟩) (heap_lt' HP.out)).trans HP.out) (HH.out.nums c (List.mem_of_getElem? hx)))
      obtain ⟨d, hd⟩ : ∃ d, (!decide (c.who ∈ l.held)) = d := ⟨_, rfl⟩
      rw [hd] at HBE
      have HD := Lib.hid hd
      have HX := Lib.hid hx
      have hi : (k : Int) < (l.row.length : Int) := by omega
      have HLT := Lib.hid hlt
      clear hk hbw hno hlt hx d0 d1 k0 k1 hd
      go_wp2_with fail
      refine (HBE.out).mono ?_
      rintro e w2 ⟨rfl, hb2⟩
      have HB2 := Lib.hid (HB.out.trans (hb2.mono HB.out.size))
      clear hb2 q0 q1
      cases d with
      | true =>
        have HE : Hid (behI l = (k : Int)) := Lib.hid (by
          unfold behI
          rw [if_pos (List.any_eq_true.2 ⟨c, List.mem_of_getElem? HX.out, HD.out⟩), findIdx_hit HX.out HD.out HNO.out])
        go_wp2_with fail
        refine bodyPost_ret (v := .int .i64 k) (by simp [results, Tryz.results99, go_sem]) rfl ⟨by rw [HE.out], HB2.out⟩
      | false =>
        have HN2 : Hid (∀ c ∈ l.row.take (k + 1), (!decide (c.who ∈ l.held)) = false) := Lib.hid (fun x hx => by
          rw [HTK.out, List.mem_append, List.mem_singleton] at hx
          rcases hx with hx | rfl
          · exact HNO.out x hx
          · exact HD.out)
        go_wp2_with fail
        go_roundw
        case rel => exact ⟨k + 1, HLT.out, by go_num, HB2.out, HN2.out⟩
        case measure => have := HLT.out; simp [intOf]; omega
    · obtain rfl : k = l.row.length := by omega
      rw [List.take_length] at hno
      have HE : Hid (behI l = -1) := Lib.hid (by
        unfold behI
        rw [if_neg (by
          rw [Bool.not_eq_true, List.any_eq_false]
          exact fun x hx => by rw [hno x hx]; simp)])
      have hn : ¬ (l.row.length : Int) < (l.row.length : Int) := by omega
      clear hk hbw hno hlt
      go_wp2_with fail
      refine bodyPost_ret (v := .int .i64 (-1)) (by simp [results, Tryz.results99, go_sem]) rfl ⟨by rw [HE.out], HB.out⟩
theorem place_hit {l : Ln} (h : (l.row.any fun c => !decide (c.who ∈ l.held)) = true) : behI l = (placeP l true : Int) := by
  unfold behI placeP
  rw [if_pos h, if_pos rfl]
  congr 2
  funext c
  rw [List.contains_eq_mem]
theorem place_end {l : Ln} (h : ¬ (l.row.any fun c => !decide (c.who ∈ l.held)) = true) : behI l = -1 ∧ placeP l true = l.row.length := by
  refine ⟨by unfold behI; rw [if_neg h], ?_⟩
  unfold placeP
  rw [if_pos rfl, List.findIdx_eq_length]
  intro c hc
  rw [Bool.not_eq_true, List.any_eq_false] at h
  have := h c hc
  rw [List.contains_eq_mem]
  simpa using this
set_option maxRecDepth 100000 in
set_option maxHeartbeats 2000000 in
theorem place_any {w : World} {b gh : Nat} {rv : Value} {l : Ln} (raise : Bool) (h : LnAt w b gh rv l) (hl : l.row.length ≤ 100000) : Calls Tryz.prog 106 #[.pointer (some ⟨b, 0, none⟩), .bool raise] w fun e w' => e = .returned (.int .i64 (placeP l raise : Int)) ∧ Below w.heap.size w w' := by
  have hb1 := below_new (w := w) (.cells #[.pointer (some ⟨b, 0, none⟩)] 71)
  have hx1 := alloc_at w (.cells #[.pointer (some ⟨b, 0, none⟩)] 71)
  obtain ⟨w1, hw1⟩ : ∃ w1, w1 = w.alloc (.cells #[.pointer (some ⟨b, 0, none⟩)] 71) := ⟨_, rfl⟩
  rw [← hw1] at hb1 hx1
  have h1 := h.below hb1
  have hp : w1.cell? ⟨w.heap.size, 0, none⟩ = some (.pointer (some ⟨b, 0, none⟩)) := cell_of hx1 0
  have HIX := Lib.hid (behindex_any h1 hp hl)
  obtain ⟨A, cap, rfl, hr1, hr2, _⟩ := id h1.row.form
  unfold maxLen at hr2
  have k2 : w1.cell? ⟨b, 2, none⟩ = some (.slice A l.row.length cap) := cell_of h1.head 2
  have k2' := k2
  rw [hw1] at k2'
  have HW1 := Lib.hid hw1
  have HB1 := Lib.hid hb1
  have HK := Lib.hid (And.intro hp k2)
  have hlI : (l.row.length : Int) ≤ 100000 := by omega
  clear h hb1 hx1 hw1 h1 hp k2
  cases raise with
  | false =>
    have HP : Hid (placeP l false = l.row.length) := Lib.hid rfl
    go_enter Tryz.func106, Tryz.ntmps106
    go_wp2_with fail
    rw [← HW1.out]
    refine bodyPost_ret (v := .int .i64 (l.row.length : Int)) (by simp [results, Tryz.results106, go_sem]) rfl ⟨by rw [HP.out], HB1.out⟩
  | true =>
    by_cases hany : (l.row.any fun c => !decide (c.who ∈ l.held)) = true
    · have hh := place_hit hany
      rw [hh] at HIX
      obtain ⟨i, hi⟩ : ∃ i, placeP l true = i := ⟨_, rfl⟩
      rw [hi] at HIX ⊢
      have hi0 : (0 : Int) ≤ (i : Int) := by omega
      clear hany hh hi
      go_enter Tryz.func106, Tryz.ntmps106
      go_wp2_with fail
      rw [← HW1.out]
      refine (HIX.out).mono ?_
      rintro e w2 ⟨rfl, hb2⟩
      have HB2 := Lib.hid (HB1.out.trans (hb2.mono HB1.out.size))
      clear hb2
      go_wp2_with fail
      refine bodyPost_ret (v := .int .i64 (i : Int)) (by simp [results, Tryz.results106, go_sem]) rfl ⟨rfl, HB2.out⟩
    · obtain ⟨h1, h2⟩ := place_end hany
      rw [h1] at HIX
      rw [h2]
      clear hany h1 h2
      go_enter Tryz.func106, Tryz.ntmps106
      go_wp2_with fail
      rw [← HW1.out]
      refine (HIX.out).mono ?_
      rintro e w2 ⟨rfl, hb2⟩
      have HB2 := Lib.hid (HB1.out.trans (hb2.mono HB1.out.size))
      have q0 := (hb2.cell (p := ⟨w.heap.size, 0, none⟩) (heap_lt' HK.out.1)).trans HK.out.1
      have q2 := (hb2.cell (p := ⟨b, 2, none⟩) (heap_lt' HK.out.2)).trans HK.out.2
      clear hb2
      go_wp2_with fail
      refine bodyPost_ret (v := .int .i64 (l.row.length : Int)) (by simp [results, Tryz.results106, go_sem]) rfl ⟨rfl, HB2.out⟩
end Go.Proofs.YtmchmlkbpocboaaGreatDoor
