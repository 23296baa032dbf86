/- The reference's Peel. -/
import Derived.Test.YtponcidmipkodaaDoorCrcF
import Derived.Deep.RegionHeld
set_option linter.unusedSimpArgs false
set_option linter.unusedVariables false
set_option linter.unnecessarySimpa false
namespace Go.Proofs.YtponcidmipkodaaDoor
open Go.RowKit

/-- What Peel answers. -/
def PeelIs (w : World) (l : List UInt8) (e : Ending) (w' : World) : Prop :=
  ∃ x, e = .returned (.tuple #[x, .int .i64 (firstP l : Nat)]) ∧ (firstP l = 0 → x = .slice none 0 0) ∧ (firstP l ≠ 0 → BIs w' x (bodyP l)) ∧ Below w.heap.size w w'
theorem peelIs_no {w : World} {l : List UInt8} {w' : World} (h : firstP l = 0) (hb : Below w.heap.size w w') : PeelIs w l (.returned (.tuple #[.slice none 0 0, .int .i64 0])) w' :=
  ⟨_, by rw [h]; rfl, fun _ => rfl, fun hn => absurd h hn, hb⟩
theorem frame_iff {l : List UInt8} {N : Nat} (hN : szP l = N) (h1 : N ≤ 16384) (h2 : N + 7 ≤ l.length) :
    (frameB ((l.drop 3).take N) = l.take (N + 7) → firstP l = N + 7) ∧ (frameB ((l.drop 3).take N) ≠ l.take (N + 7) → firstP l = 0) := by
  have hlen : ((l.drop 3).take N).length = N := by rw [List.length_take, List.length_drop]; omega
  constructor
  · intro h
    have := firstP_frame (l := (l.drop 3).take N) (by omega) (l.drop (N + 7))
    rw [h, List.take_append_drop, hlen] at this
    exact this
  · intro h
    refine Classical.byContradiction fun h0 => h ?_
    obtain ⟨m, hm, hl, _, _, he, _⟩ := firstP_pos h0
    rw [hN] at hm hl
    rw [← hm, he]
    have : (frameB m).length = N + 7 := by rw [frameB_len, hl]
    rw [← this, List.take_left]

set_option maxRecDepth 100000 in
set_option maxHeartbeats 4000000 in
theorem rpeel_any {w : World} {v : Value} {l : List UInt8} (h : BIs w v l) : Calls Tryd.prog 19 #[v] w (PeelIs w l) := by
  by_cases h7 : l.length < 7
  · have e : firstP l = 0 := by unfold firstP; rw [if_pos (.inl h7)]
    obtain ⟨A, cap, rfl, h1, h2, h3⟩ := h
    have h7' : (l.length : Int) < 7 := by omega
    clear h3
    go_enter Tryd.func19, Tryd.ntmps19
    go_wp2_with fail
    go_ret2
    exact peelIs_no e (Below.refl _ _)
  · obtain ⟨a, cap, rfl, h1, h2, hat⟩ := h.at (by intro e; rw [e] at h7; simp at h7)
    have hc1 : w.cell? ⟨a.block, a.off + 1, none⟩ = some (.int .u8 ((l[1]'(by omega)).toNat : Int)) := hat.2 1 _ (List.getElem?_eq_getElem (by omega))
    have hc2 : w.cell? ⟨a.block, a.off + 2, none⟩ = some (.int .u8 ((l[2]'(by omega)).toNat : Int)) := hat.2 2 _ (List.getElem?_eq_getElem (by omega))
    have e1 : atN l 1 = (l[1]'(by omega)).toNat := by unfold atN; rw [List.getElem?_eq_getElem (by omega)]; rfl
    have e2 : atN l 2 = (l[2]'(by omega)).toNat := by unfold atN; rw [List.getElem?_eq_getElem (by omega)]; rfl
    rw [← e1] at hc1
    rw [← e2] at hc2
    clear e1 e2
    have h7' : ¬ (l.length : Int) < 7 := by omega
    have l1 : 1 < l.length := by omega
    have l2 : 2 < l.length := by omega
    have a1 := atN_lt l 1
    have a2 := atN_lt l 2
    have hsz : 256 * (atN l 1 : Int) + (atN l 2 : Int) = (szP l : Int) := by
      show 256 * (atN l 1 : Int) + (atN l 2 : Int) = ((atN l 1 * 256 + atN l 2 : Nat) : Int)
      omega
    have HIFF := Lib.hid (fun N (hN : szP l = N) => frame_iff (l := l) hN)
    have hbig : Hid (16384 < szP l ∨ l.length < szP l + 7 → firstP l = 0) := by
      intro h
      unfold firstP
      by_cases h0 : l.length < 7 ∨ atN l 0 ≠ 167
      · rw [if_pos h0]
      · rw [if_neg h0, if_pos (by omega)]
    have hN65 := szP_lt l
    generalize hNN : szP l = N at *
    have HNN := Lib.hid hNN
    generalize atN l 1 = y1 at *
    generalize atN l 2 = y2 at *
    have y1' : (y1 : Int) < 256 := by omega
    have y2' : (y2 : Int) < 256 := by omega
    have hN' : (N : Int) < 65536 := by omega
    have w1 : IntKind.i64.wrap (256 * (y1 : Int)) = 256 * (y1 : Int) := IntWalk.i64_in _ (by omega)
    have w2 : IntKind.i64.wrap (256 * (y1 : Int) + (y2 : Int)) = (N : Int) := by rw [hsz]; exact IntWalk.i64_in _ (by omega)
    unfold maxLen at h2
    have h2' : cap ≤ 9223372036854775807 := by omega
    have HAT := Lib.hid hat
    clear hNN hat
    by_cases hA : (16384 : Int) < (N : Int)
    · have HE : Hid (firstP l = 0) := hbig.out (by omega)
      go_enter Tryd.func19, Tryd.ntmps19
      go_wp2_with fail
      go_region
      go_wp2_with fail
      go_ret2
      exact peelIs_no HE.out (below_drew (Below.refl _ _))
    · by_cases hB : (l.length : Int) < (N : Int) + 7
      · have HE : Hid (firstP l = 0) := hbig.out (by omega)
        go_enter Tryd.func19, Tryd.ntmps19
        go_wp2_with fail
        go_region
        go_wp2_with fail
        go_ret2
        exact peelIs_no HE.out (below_drew (Below.refl _ _))
      · have hA1 : decide ((16384 : Int) < (N : Int)) = false := decide_eq_false hA
        have hB1 : decide ((l.length : Int) < (N : Int) + 7) = false := decide_eq_false (by omega)
        have HAB : Hid (N ≤ 16384 ∧ N + 7 ≤ l.length) := ⟨by omega, by omega⟩
        have q1 : N + 3 ≤ l.length := by omega
        have q2 : N + 7 ≤ cap := by omega
        have q3 : N + 3 ≤ cap := by omega
        clear hA hB hN65 hN'
        have hN' : (N : Int) ≤ 16384 := by have := HAB.out.1; omega
        go_enter Tryd.func19, Tryd.ntmps19
        go_wp2_with fail
        go_region
        go_wp2_with fail
        have HSUB : Hid (∀ W, Below w.heap.size w W → BIs W (.slice (some ⟨a.block, a.off + 3, none⟩) N (cap - 3)) ((l.drop 3).take N)) := fun W hW =>
          ((((HAT.out.drop 3 (by omega)).take N).bis (cap := cap - 3) (by rw [List.length_take, List.length_drop]; have := HAB.out.2; omega) (by omega) (by unfold maxLen; omega))).below hW
        have HTOP : Hid (∀ W, Below w.heap.size w W → BIs W (.slice (some a) (N + 7) cap) (l.take (N + 7))) := fun W hW =>
          ((HAT.out.take (N + 7)).bis (by rw [List.length_take]; have := HAB.out.2; omega) q2 (by unfold maxLen; omega)).below hW
        have hl2 : ((l.drop 3).take N).length ≤ 16384 := by rw [List.length_take]; have := HAB.out.1; omega
        have HRW := Lib.hid (fun W hW => rwrap_any (HSUB.out W hW) hl2)
        have r1 : IntKind.i64.wrap (3 + (N : Int)) = 3 + (N : Int) := IntWalk.i64_in _ (by omega)
        have r2 : IntKind.i64.wrap ((N : Int) + 7) = (N : Int) + 7 := IntWalk.i64_in _ (by omega)
        have r3 : 3 + (N : Int) ≤ (cap : Int) := by omega
        have r4 : (N : Int) + 7 ≤ (cap : Int) := by omega
        have r5 : (0 : Int) ≤ (N : Int) := by omega
        have r6 : (3 + (N : Int)).toNat = N + 3 := by omega
        have r7 : ((N : Int) + 7).toNat = N + 7 := by omega
        have r8 : ¬ cap = 3 := by omega
        have c0 := bis_string (HTOP.out w.drew (below_drew (Below.refl _ _)))
        have c1 := bis_string (HTOP.out w.drew.drew (below_drew (below_drew (Below.refl _ _))))
        have r9 : (0 : Int) ≤ 3 + (N : Int) := by omega
        have r10 : 3 + (N : Int) ≤ (l.length : Int) := by have := HAB.out.2; omega
        have r11 : (0 : Int) ≤ (N : Int) + 7 := by omega
        have r12 : (N : Int) + 7 ≤ (l.length : Int) := by have := HAB.out.2; omega
        have r13 : (3 : Int) ≤ 3 + (N : Int) := by omega
        clear hl2
        by_cases hC : frameB ((l.drop 3).take N) = l.take (N + 7)
        · have hB : (frameB ((l.drop 3).take N) == l.take (N + 7)) = true := beq_iff_eq.2 hC
          have HC := Lib.hid hC
          clear hC
          go_region_held (fun w' => (convert 22 9 (.slice (some a) (N + 7) cap)).run Tryd.prog w' = .ok (.string ⟨(l.take (N + 7)).toArray⟩) w') (first | exact c0 | exact c1 | assumption)
            (first | (go_at_call 16; refine (HRW.out _ (below_drew (below_drew (Below.refl _ _)))).mono ?_; rintro e wx ⟨x, rfl, hO, hb⟩; have hbx := (below_drew (below_drew (Below.refl w.heap.size w))).trans hb; have c2 := bis_string (HTOP.out wx hbx); have c3 := bis_string hO.bis))
          go_wp2_with fail
          go_ret2
          have e : firstP l = N + 7 := (HIFF.out N rfl HAB.out.1 HAB.out.2).1 HC.out
          refine ⟨_, by rw [e]; rfl, fun h => by omega, fun _ => ?_, ?_⟩
          · unfold bodyP
            rw [HNN.out]
            exact HSUB.out _ (by assumption)
          · assumption
        · have hB : (frameB ((l.drop 3).take N) == l.take (N + 7)) = false := beq_eq_false_iff_ne.2 hC
          have HC := Lib.hid hC
          clear hC
          go_region_held (fun w' => (convert 22 9 (.slice (some a) (N + 7) cap)).run Tryd.prog w' = .ok (.string ⟨(l.take (N + 7)).toArray⟩) w') (first | exact c0 | exact c1 | assumption)
            (first | (go_at_call 16; refine (HRW.out _ (below_drew (below_drew (Below.refl _ _)))).mono ?_; rintro e wx ⟨x, rfl, hO, hb⟩; have hbx := (below_drew (below_drew (Below.refl w.heap.size w))).trans hb; have c2 := bis_string (HTOP.out wx hbx); have c3 := bis_string hO.bis))
          go_wp2_with fail
          go_ret2
          exact peelIs_no ((HIFF.out N rfl HAB.out.1 HAB.out.2).2 HC.out) (by assumption)
end Go.Proofs.YtponcidmipkodaaDoor
