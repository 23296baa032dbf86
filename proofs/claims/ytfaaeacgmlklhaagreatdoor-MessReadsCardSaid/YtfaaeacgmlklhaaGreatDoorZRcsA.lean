/- The reference's Sum; crc.word. The reference's Peel. -/
import Derived.Test.YtfaaeacgmlklhaaGreatDoorZCrcF
import Derived.Laws.IdiomStrings
import Derived.Deep.RegionHeld
set_option linter.unusedSimpArgs false
set_option linter.unusedVariables false
set_option linter.unnecessarySimpa false
namespace Go.Proofs.YtfaaeacgmlklhaaGreatDoor
open Go.RowKit

theorem bs_bitc (S β : Nat) (hβ : β ≤ 1) : bs (S ^^^ β) = if β = S % 2 then S / 2 else S / 2 ^^^ pol := by
  have h1 : bs 1 = pol := by decide
  rcases Nat.lt_or_ge 0 β with h | h
  · obtain rfl : β = 1 := by omega
    rw [bs_xor, h1]
    unfold bs
    by_cases hs : S % 2 = 1
    · rw [if_pos hs, if_pos hs.symm, Nat.xor_assoc, Nat.xor_self, Nat.xor_zero]
    · rw [if_neg hs, if_neg (fun h => hs h.symm)]
  · obtain rfl : β = 0 := by omega
    rw [Nat.xor_zero]
    unfold bs
    by_cases hs : S % 2 = 1
    · rw [if_pos hs, if_neg (by omega)]
    · rw [if_neg hs, if_pos (by omega)]

set_option maxRecDepth 100000 in
set_option maxHeartbeats 1000000 in
theorem rsum_any {w : World} {v : Value} {l : List UInt8} (h : BIs w v l) (hl : l.length ≤ 1000000) :
    Calls Tryz.prog 64 #[v] w fun e w' => e = .returned (.int .u32 (sumB l : Nat)) ∧ w = w' := by
  obtain ⟨A, cap, rfl, h1, h2, h3⟩ := h
  unfold maxLen at h2
  have H3 := Lib.hid h3
  have hl' : (l.length : Int) ≤ 1000000 := by omega
  clear h3
  go_enter Tryz.func64, Tryz.ntmps64
  go_wp2_with fail
  go_loopw [3, 4] (fun s i wr => ∃ k : Nat, k ≤ 8 * l.length ∧ i = .int .i64 k ∧ s = .int .u32 (refS l k : Nat) ∧ w = wr) (fun _ i _ => 8 * l.length - (intOf i).toNat)
  case atStart => exact ⟨0, by omega, rfl, rfl, rfl⟩
  case round =>
    obtain ⟨k, hk, rfl, rfl, rfl⟩ := hrel
    by_cases hlt : k < 8 * l.length
    · obtain ⟨c, rfl, hcb, hc⟩ := H3.out (k / 8) l[k / 8] (List.getElem?_eq_getElem (by omega))
      have hs0 := refS_lt l k
      have hk8 : (k : Int) < 8 * (l.length : Int) := by omega
      have hx' : l[k / 8]? = some l[k / 8] := List.getElem?_eq_getElem (by omega)
      have hS1 : refS l (k + 1) = bs (refS l k ^^^ bitAt l k) := rfl
      have hb1 : bitAt l k = l[k / 8].toNat / 2 ^ (k % 8) % 2 := by unfold bitAt; rw [hx']; rfl
      have hbl := bitAt_le l k
      rw [bs_bitc _ _ hbl] at hS1
      rw [hb1] at hS1
      clear hx' hb1 hbl
      generalize refS l k = S at *
      generalize l[k / 8] = x at *
      have hx8 : (x.toNat : Int) < 256 := by have := UInt8.toNat_lt x; omega
      by_cases hb : x.toNat / 2 ^ (k % 8) % 2 = S % 2
      · rw [if_pos hb] at hS1
        have hb' : ((x.toNat : Int) / 2 ^ (k % 8) % 2 != (S : Int) % 2) = false := by
          rw [bne_eq_false_iff_eq]
          exact_mod_cast hb
        have HS := Lib.hid hS1
        clear hb hS1
        go_wp2_with fail
        all_goals (go_roundw)
        case rel => exact ⟨k + 1, by omega, by go_num, by rw [HS.out]; rfl, by first | rfl | trivial⟩
        case measure => simp [intOf]; omega
      · rw [if_neg hb] at hS1
        have hb' : ((x.toNat : Int) / 2 ^ (k % 8) % 2 != (S : Int) % 2) = true := by
          rw [bne_iff_ne]
          exact_mod_cast hb
        have hxor := u32_xor_nat (S / 2) pol (by omega) (by decide)
        rw [← hS1, show ((S / 2 : Nat) : Int) = (S : Int) / 2 from rfl, show ((pol : Nat) : Int) = 2197175160 from rfl] at hxor
        clear hb hS1
        go_wp2_with fail
        go_roundw
        case rel => exact ⟨k + 1, by omega, by go_num, rfl, by first | rfl | trivial⟩
        case measure => simp [intOf]; omega
    · obtain rfl : k = 8 * l.length := by omega
      have hN : Hid ((4294967295 - (refS l (8 * l.length) : Nat) : Int) = (sumB l : Nat)) := by
        show _ = _
        have h1 := refS_lt l (8 * l.length)
        have h2 := refS_crc l l.length (Nat.le_refl _)
        rw [List.take_length] at h2
        rw [sumB_eq, ← h2]; omega
      have hlt' := refS_lt l (8 * l.length)
      go_wp2_with fail
      go_ret
      refine ⟨?_, rfl⟩
      rw [← hN.out]
      rfl
set_option maxRecDepth 100000 in
set_option maxHeartbeats 2000000 in
theorem rwrap_any {w : World} {v : Value} {l : List UInt8} (h : BIs w v l) (hl : l.length ≤ 16384) :
    Calls Tryz.prog 35 #[v] w fun e w' => ∃ x, e = .returned x ∧ OwnBy w' w.heap.size x (frameB l) ∧ Below w.heap.size w w' := by
  have HBI := Lib.hid h
  obtain ⟨A, cap, rfl, _, _, h3⟩ := h
  have HPL : Hid ((preB l).length = l.length + 3) := preB_len l
  have HLEN : Hid (frameB l = preB l ++ be4 (sumB (preB l))) := rfl
  have HPRE : Hid (preB l = headB l.length ++ l) := rfl
  have hT : (l.length : Int) ≤ 16384 := by omega
  clear h3
  generalize hTT : l.length = T at *
  have HTT := Lib.hid hTT
  have hcells : (bc (headB T)).toArray = #[.int .u8 167, .int .u8 ((T : Int) / 256), .int .u8 ((T : Int) % 256)] := by
    have e1 : (((T / 256).toUInt8.toNat : Nat) : Int) = (T : Int) / 256 := by rw [u8_mod]; omega
    have e2 : ((T.toUInt8.toNat : Nat) : Int) = (T : Int) % 256 := by rw [u8_mod]; omega
    simp only [bc, headB, List.map_cons, List.map_nil, e1, e2]
    rfl
  have hW : Below w.heap.size w (w.alloc (.cells #[.int .u8 167, .int .u8 ((T : Int) / 256), .int .u8 ((T : Int) % 256)] 5)) := (Below.refl _ _).alloc (Nat.le_refl _) _
  have own0 : Hid (OwnBy (w.alloc (.cells #[.int .u8 167, .int .u8 ((T : Int) / 256), .int .u8 ((T : Int) % 256)] 5)) w.heap.size (.slice (some ⟨w.heap.size, 0, none⟩) 3 3) (headB T)) := by
    have := new_own w (headB T) (by simp [headB])
    rw [hcells] at this
    exact this
  have src : Hid (Src Tryz.prog 1 28 (.slice A T cap) l.length (bc l) (w.alloc (.cells #[.int .u8 167, .int .u8 ((T : Int) / 256), .int .u8 ((T : Int) % 256)] 5))) := (HBI.out.below hW).src
  rw [hTT] at src
  have HW := Lib.hid hW
  have q1 : ¬ (16384 : Int) < (T : Int) := by omega
  clear hcells hW hTT hl
  go_enter Tryz.func35, Tryz.ntmps35
  go_wp2_with (at_builtin; refine wpList_append_by _ rfl _ _ 28 rfl w.heap.size (headB T) l _ _ rfl rfl own0.out (by rw [HTT.out]; exact src.out) ?_ ?_ ?_)
  · have : (headB T).length = 3 := rfl
    have := HTT.out
    omega
  intro v' w1 hown hg
  rw [← HPRE.out] at hown
  have HO := Lib.hid hown
  have HB := Lib.hid (HW.out.grown hg HW.out.size own0.out.rows)
  have HSUM := Lib.hid (rsum_any hown.bis (by rw [HPL.out]; omega))
  generalize preB l = F at *
  obtain ⟨A6, c6, rfl, g1, g2, g3⟩ := hown.bis
  have hS := sumB_lt F
  generalize sumB F = S at *
  have hS' : (S : Int) < 4294967296 := by omega
  have HS := Lib.hid hS
  clear hown hg g3 hS
  go_wp2_with fail
  refine (HSUM.out).mono ?_
  rintro e w2 ⟨rfl, rfl⟩
  have SRC := Lib.hid (new_word w1 S HS.out)
  have hA2 : Below w1.heap.size w1 (w1.alloc (.cells #[.int .u8 ((S : Int) / 16777216), .int .u8 ((S : Int) / 65536 % 256), .int .u8 ((S : Int) / 256 % 256), .int .u8 ((S : Int) % 256)] 5)) := (Below.refl _ _).alloc (Nat.le_refl _) _
  have HOB := Lib.hid (HO.out.below hA2)
  have HAB := Lib.hid (HB.out.trans (hA2.mono HB.out.size))
  clear hA2
  go_wp2_with (at_builtin; refine wpList_append_by _ rfl _ _ 28 rfl w.heap.size F (be4 S) _ _ rfl rfl HOB.out SRC.out ?_ HAB.out.size ?_)
  · rw [HPL.out]
    have : (be4 S).length = 4 := rfl
    omega
  intro v' w' hown hg
  have HO' := Lib.hid hown
  have HB' := Lib.hid (HAB.out.grown hg HAB.out.size HOB.out.rows)
  clear hown hg
  go_wp2
  go_ret
  exact ⟨_, rfl, by rw [HLEN.out]; exact HO'.out, HB'.out⟩
end Go.Proofs.YtfaaeacgmlklhaaGreatDoor

namespace Go.Proofs.YtfaaeacgmlklhaaGreatDoor
open Go.RowKit

/-- What Peel answers. -/
def PeelIs (w : World) (v : Value) (l : List UInt8) (e : Ending) (w' : World) : Prop :=
  ∃ x, e = .returned (.tuple #[x, .int .i64 (firstP l : Nat)]) ∧ (firstP l = 0 → x = .slice none 0 0) ∧ (firstP l ≠ 0 → BIs w' x (bodyP l) ∧ ∀ a n c, x = .slice (some a) n c → v.ownBlock = some a.block) ∧ Below w.heap.size w w'
theorem peelIs_no {w : World} {v : Value} {l : List UInt8} {w' : World} (h : firstP l = 0) (hb : Below w.heap.size w w') : PeelIs w v l (.returned (.tuple #[.slice none 0 0, .int .i64 0])) w' :=
  ⟨_, by rw [h]; rfl, fun _ => rfl, fun hn => absurd h hn, hb⟩
theorem frame_iff {l : List UInt8} {N : Nat} (hN : szP l = N) (h1 : N ≤ 16384) (h2 : N + 7 ≤ l.length) :
    (frameB ((l.drop 3).take N) = l.take (N + 7) → firstP l = N + 7) ∧ (frameB ((l.drop 3).take N) ≠ l.take (N + 7) → firstP l = 0) := by
  have hlen : ((l.drop 3).take N).length = N := by rw [List.length_take, List.length_drop]; omega
  constructor
  · intro h
    have := firstP_frame (l := (l.drop 3).take N) (by omega) (l.drop (N + 7))
    rw [h, List.take_append_drop, hlen] at this
    exact this
  · intro h
    refine Classical.byContradiction fun h0 => h ?_
    obtain ⟨m, hm, hl, _, _, he, _⟩ := firstP_pos h0
    rw [hN] at hm hl
    rw [← hm, he]
    have : (frameB m).length = N + 7 := by rw [frameB_len, hl]
    rw [← this, List.take_left]

set_option maxRecDepth 100000 in
set_option maxHeartbeats 4000000 in
theorem rpeel_any {w : World} {v : Value} {l : List UInt8} (h : BIs w v l) : Calls Tryz.prog 48 #[v] w (PeelIs w v l) := by
  by_cases h7 : l.length < 7
  · have e : firstP l = 0 := by unfold firstP; rw [if_pos (.inl h7)]
    obtain ⟨A, cap, rfl, h1, h2, h3⟩ := h
    have h7' : (l.length : Int) < 7 := by omega
    clear h3
    go_enter Tryz.func48, Tryz.ntmps48
    go_wp2_with fail
    go_ret2
    exact peelIs_no e (Below.refl _ _)
  · obtain ⟨a, cap, rfl, h1, h2, hat⟩ := h.at (by intro e; rw [e] at h7; simp at h7)
    have hc1 : w.cell? ⟨a.block, a.off + 1, none⟩ = some (.int .u8 ((l[1]'(by omega)).toNat : Int)) := hat.2 1 _ (List.getElem?_eq_getElem (by omega))
    have hc2 : w.cell? ⟨a.block, a.off + 2, none⟩ = some (.int .u8 ((l[2]'(by omega)).toNat : Int)) := hat.2 2 _ (List.getElem?_eq_getElem (by omega))
    have e1 : atN l 1 = (l[1]'(by omega)).toNat := by unfold atN; rw [List.getElem?_eq_getElem (by omega)]; rfl
    have e2 : atN l 2 = (l[2]'(by omega)).toNat := by unfold atN; rw [List.getElem?_eq_getElem (by omega)]; rfl
    rw [← e1] at hc1
    rw [← e2] at hc2
    clear e1 e2
    have h7' : ¬ (l.length : Int) < 7 := by omega
    have l1 : 1 < l.length := by omega
    have l2 : 2 < l.length := by omega
    have a1 := atN_lt l 1
    have a2 := atN_lt l 2
    have hsz : 256 * (atN l 1 : Int) + (atN l 2 : Int) = (szP l : Int) := by
      show 256 * (atN l 1 : Int) + (atN l 2 : Int) = ((atN l 1 * 256 + atN l 2 : Nat) : Int)
      omega
    have HIFF := Lib.hid (fun N (hN : szP l = N) => frame_iff (l := l) hN)
    have hbig : Hid (16384 < szP l ∨ l.length < szP l + 7 → firstP l = 0) := by
      intro h
      unfold firstP
      by_cases h0 : l.length < 7 ∨ atN l 0 ≠ 167
      · rw [if_pos h0]
      · rw [if_neg h0, if_pos (by omega)]
    have hN65 := szP_lt l
    generalize hNN : szP l = N at *
    have HNN := Lib.hid hNN
    generalize atN l 1 = y1 at *
    generalize atN l 2 = y2 at *
    have y1' : (y1 : Int) < 256 := by omega
    have y2' : (y2 : Int) < 256 := by omega
    have hN' : (N : Int) < 65536 := by omega
    have w1 : IntKind.i64.wrap (256 * (y1 : Int)) = 256 * (y1 : Int) := IntWalk.i64_in _ (by omega)
    have w2 : IntKind.i64.wrap (256 * (y1 : Int) + (y2 : Int)) = (N : Int) := by rw [hsz]; exact IntWalk.i64_in _ (by omega)
    unfold maxLen at h2
    have h2' : cap ≤ 9223372036854775807 := by omega
    have HAT := Lib.hid hat
    clear hNN hat
    by_cases hA : (16384 : Int) < (N : Int)
    · have HE : Hid (firstP l = 0) := hbig.out (by omega)
      go_enter Tryz.func48, Tryz.ntmps48
      go_wp2_with fail
      go_region
      go_wp2_with fail
      go_ret2
      exact peelIs_no HE.out (below_drew (Below.refl _ _))
    · by_cases hB : (l.length : Int) < (N : Int) + 7
      · have HE : Hid (firstP l = 0) := hbig.out (by omega)
        go_enter Tryz.func48, Tryz.ntmps48
        go_wp2_with fail
        go_region
        go_wp2_with fail
        go_ret2
        exact peelIs_no HE.out (below_drew (Below.refl _ _))
      · have hA1 : decide ((16384 : Int) < (N : Int)) = false := decide_eq_false hA
        have hB1 : decide ((l.length : Int) < (N : Int) + 7) = false := decide_eq_false (by omega)
        have HAB : Hid (N ≤ 16384 ∧ N + 7 ≤ l.length) := ⟨by omega, by omega⟩
        have q1 : N + 3 ≤ l.length := by omega
        have q2 : N + 7 ≤ cap := by omega
        have q3 : N + 3 ≤ cap := by omega
        clear hA hB hN65 hN'
        have hN' : (N : Int) ≤ 16384 := by have := HAB.out.1; omega
        go_enter Tryz.func48, Tryz.ntmps48
        go_wp2_with fail
        go_region
        go_wp2_with fail
        have HSUB : Hid (∀ W, Below w.heap.size w W → BIs W (.slice (some ⟨a.block, a.off + 3, none⟩) N (cap - 3)) ((l.drop 3).take N)) := fun W hW =>
          ((((HAT.out.drop 3 (by omega)).take N).bis (cap := cap - 3) (by rw [List.length_take, List.length_drop]; have := HAB.out.2; omega) (by omega) (by unfold maxLen; omega))).below hW
        have HTOP : Hid (∀ W, Below w.heap.size w W → BIs W (.slice (some a) (N + 7) cap) (l.take (N + 7))) := fun W hW =>
          ((HAT.out.take (N + 7)).bis (by rw [List.length_take]; have := HAB.out.2; omega) q2 (by unfold maxLen; omega)).below hW
        have hl2 : ((l.drop 3).take N).length ≤ 16384 := by rw [List.length_take]; have := HAB.out.1; omega
        have HRW := Lib.hid (fun W hW => rwrap_any (HSUB.out W hW) hl2)
        have r1 : IntKind.i64.wrap (3 + (N : Int)) = 3 + (N : Int) := IntWalk.i64_in _ (by omega)
        have r2 : IntKind.i64.wrap ((N : Int) + 7) = (N : Int) + 7 := IntWalk.i64_in _ (by omega)
        have r3 : 3 + (N : Int) ≤ (cap : Int) := by omega
        have r4 : (N : Int) + 7 ≤ (cap : Int) := by omega
        have r5 : (0 : Int) ≤ (N : Int) := by omega
        have r6 : (3 + (N : Int)).toNat = N + 3 := by omega
        have r7 : ((N : Int) + 7).toNat = N + 7 := by omega
        have r8 : ¬ cap = 3 := by omega
        have c0 := bis_string (HTOP.out w.drew (below_drew (Below.refl _ _)))
        have c1 := bis_string (HTOP.out w.drew.drew (below_drew (below_drew (Below.refl _ _))))
        have r9 : (0 : Int) ≤ 3 + (N : Int) := by omega
        have r10 : 3 + (N : Int) ≤ (l.length : Int) := by have := HAB.out.2; omega
        have r11 : (0 : Int) ≤ (N : Int) + 7 := by omega
        have r12 : (N : Int) + 7 ≤ (l.length : Int) := by have := HAB.out.2; omega
        have r13 : (3 : Int) ≤ 3 + (N : Int) := by omega
        clear hl2
        by_cases hC : frameB ((l.drop 3).take N) = l.take (N + 7)
        · have hB : (frameB ((l.drop 3).take N) == l.take (N + 7)) = true := beq_iff_eq.2 hC
          have HC := Lib.hid hC
          clear hC
          go_region_held (fun w' => (convert 28 9 (.slice (some a) (N + 7) cap)).run Tryz.prog w' = .ok (.string ⟨(l.take (N + 7)).toArray⟩) w') (first | exact c0 | exact c1 | assumption)
            (first | (go_at_call 35; refine (HRW.out _ (below_drew (below_drew (Below.refl _ _)))).mono ?_; rintro e wx ⟨x, rfl, hO, hb⟩; have hbx := (below_drew (below_drew (Below.refl w.heap.size w))).trans hb; have c2 := bis_string (HTOP.out wx hbx); have c3 := bis_string hO.bis))
          go_wp2_with fail
          go_ret2
          have e : firstP l = N + 7 := (HIFF.out N rfl HAB.out.1 HAB.out.2).1 HC.out
          refine ⟨_, by rw [e]; rfl, fun h => by omega, fun _ => ?_, ?_⟩
          · unfold bodyP
            rw [HNN.out]
            refine ⟨HSUB.out _ (by assumption), fun a' n' c' e => ?_⟩
            injection e with e _ _
            injection e with e
            subst e
            rfl
          · assumption
        · have hB : (frameB ((l.drop 3).take N) == l.take (N + 7)) = false := beq_eq_false_iff_ne.2 hC
          have HC := Lib.hid hC
          clear hC
          go_region_held (fun w' => (convert 28 9 (.slice (some a) (N + 7) cap)).run Tryz.prog w' = .ok (.string ⟨(l.take (N + 7)).toArray⟩) w') (first | exact c0 | exact c1 | assumption)
            (first | (go_at_call 35; refine (HRW.out _ (below_drew (below_drew (Below.refl _ _)))).mono ?_; rintro e wx ⟨x, rfl, hO, hb⟩; have hbx := (below_drew (below_drew (Below.refl w.heap.size w))).trans hb; have c2 := bis_string (HTOP.out wx hbx); have c3 := bis_string hO.bis))
          go_wp2_with fail
          go_ret2
          exact peelIs_no ((HIFF.out N rfl HAB.out.1 HAB.out.2).2 HC.out) (by assumption)
end Go.Proofs.YtfaaeacgmlklhaaGreatDoor
