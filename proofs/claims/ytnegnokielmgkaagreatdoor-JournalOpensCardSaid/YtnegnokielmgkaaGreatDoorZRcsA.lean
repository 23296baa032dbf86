/- The reference's Sum; crc.word. The reference's Peel. JournalOpens: the reference's frames and begins. -/
import Derived.Test.YtnegnokielmgkaaGreatDoorZCrcF
import Derived.Laws.IdiomStrings
import Derived.Deep.RegionHeld
import Derived.Test.YtnegnokielmgkaaGreatDoorZJouB
set_option linter.unusedSimpArgs false
set_option linter.unusedVariables false
set_option linter.unnecessarySimpa false
namespace Go.Proofs.YtnegnokielmgkaaGreatDoor
open Go.RowKit

theorem bs_bitc (S β : Nat) (hβ : β ≤ 1) : bs (S ^^^ β) = if β = S % 2 then S / 2 else S / 2 ^^^ pol := by
  have h1 : bs 1 = pol := by decide
  rcases Nat.lt_or_ge 0 β with h | h
  · obtain rfl : β = 1 := by omega
    rw [bs_xor, h1]
    unfold bs
    by_cases hs : S % 2 = 1
    · rw [if_pos hs, if_pos hs.symm, Nat.xor_assoc, Nat.xor_self, Nat.xor_zero]
    · rw [if_neg hs, if_neg (fun h => hs h.symm)]
  · obtain rfl : β = 0 := by omega
    rw [Nat.xor_zero]
    unfold bs
    by_cases hs : S % 2 = 1
    · rw [if_pos hs, if_neg (by omega)]
    · rw [if_neg hs, if_pos (by omega)]

set_option maxRecDepth 100000 in
set_option maxHeartbeats 1000000 in
theorem rsum_any {w : World} {v : Value} {l : List UInt8} (h : BIs w v l) (hl : l.length ≤ 1000000) :
    Calls Tryz.prog 129 #[v] w fun e w' => e = .returned (.int .u32 (sumB l : Nat)) ∧ w = w' := by
  obtain ⟨A, cap, rfl, h1, h2, h3⟩ := h
  unfold maxLen at h2
  have H3 := Lib.hid h3
  have hl' : (l.length : Int) ≤ 1000000 := by omega
  clear h3
  go_enter Tryz.func129, Tryz.ntmps129
  go_wp2_with fail
  go_loopw [3, 4] (fun s i wr => ∃ k : Nat, k ≤ 8 * l.length ∧ i = .int .i64 k ∧ s = .int .u32 (refS l k : Nat) ∧ w = wr) (fun _ i _ => 8 * l.length - (intOf i).toNat)
  case atStart => exact ⟨0, by omega, rfl, rfl, rfl⟩
  case round =>
    obtain ⟨k, hk, rfl, rfl, rfl⟩ := hrel
    by_cases hlt : k < 8 * l.length
    · obtain ⟨c, rfl, hcb, hc⟩ := H3.out (k / 8) l[k / 8] (List.getElem?_eq_getElem (by omega))
      have hs0 := refS_lt l k
      have hk8 : (k : Int) < 8 * (l.length : Int) := by omega
      have hx' : l[k / 8]? = some l[k / 8] := List.getElem?_eq_getElem (by omega)
      have hS1 : refS l (k + 1) = bs (refS l k ^^^ bitAt l k) := rfl
      have hb1 : bitAt l k = l[k / 8].toNat / 2 ^ (k % 8) % 2 := by unfold bitAt; rw [hx']; rfl
      have hbl := bitAt_le l k
      rw [bs_bitc _ _ hbl] at hS1
      rw [hb1] at hS1
      clear hx' hb1 hbl
      generalize refS l k = S at *
      generalize l[k / 8] = x at *
      have hx8 : (x.toNat : Int) < 256 := by have := UInt8.toNat_lt x; omega
      by_cases hb : x.toNat / 2 ^ (k % 8) % 2 = S % 2
      · rw [if_pos hb] at hS1
        have hb' : ((x.toNat : Int) / 2 ^ (k % 8) % 2 != (S : Int) % 2) = false := by
          rw [bne_eq_false_iff_eq]
          exact_mod_cast hb
        have HS := Lib.hid hS1
        clear hb hS1
        go_wp2_with fail
        all_goals (go_roundw)
        case rel => exact ⟨k + 1, by omega, by go_num, by rw [HS.out]; rfl, by first | rfl | trivial⟩
        case measure => simp [intOf]; omega
      · rw [if_neg hb] at hS1
        have hb' : ((x.toNat : Int) / 2 ^ (k % 8) % 2 != (S : Int) % 2) = true := by
          rw [bne_iff_ne]
          exact_mod_cast hb
        have hxor := u32_xor_nat (S / 2) pol (by omega) (by decide)
        rw [← hS1, show ((S / 2 : Nat) : Int) = (S : Int) / 2 from rfl, show ((pol : Nat) : Int) = 2197175160 from rfl] at hxor
        clear hb hS1
        go_wp2_with fail
        go_roundw
        case rel => exact ⟨k + 1, by omega, by go_num, rfl, by first | rfl | trivial⟩
        case measure => simp [intOf]; omega
    · obtain rfl : k = 8 * l.length := by omega
      have hN : Hid ((4294967295 - (refS l (8 * l.length) : Nat) : Int) = (sumB l : Nat)) := by
        show _ = _
        have h1 := refS_lt l (8 * l.length)
        have h2 := refS_crc l l.length (Nat.le_refl _)
        rw [List.take_length] at h2
        rw [sumB_eq, ← h2]; omega
      have hlt' := refS_lt l (8 * l.length)
      go_wp2_with fail
      go_ret
      refine ⟨?_, rfl⟩
      rw [← hN.out]
      rfl
set_option maxRecDepth 100000 in
set_option maxHeartbeats 2000000 in
theorem rwrap_any {w : World} {v : Value} {l : List UInt8} (h : BIs w v l) (hl : l.length ≤ 16384) :
    Calls Tryz.prog 110 #[v] w fun e w' => ∃ x, e = .returned x ∧ OwnBy w' w.heap.size x (frameB l) ∧ Below w.heap.size w w' := by
  have HBI := Lib.hid h
  obtain ⟨A, cap, rfl, _, _, h3⟩ := h
  have HPL : Hid ((preB l).length = l.length + 3) := preB_len l
  have HLEN : Hid (frameB l = preB l ++ be4 (sumB (preB l))) := rfl
  have HPRE : Hid (preB l = headB l.length ++ l) := rfl
  have hT : (l.length : Int) ≤ 16384 := by omega
  clear h3
  generalize hTT : l.length = T at *
  have HTT := Lib.hid hTT
  have hcells : (bc (headB T)).toArray = #[.int .u8 167, .int .u8 ((T : Int) / 256), .int .u8 ((T : Int) % 256)] := by
    have e1 : (((T / 256).toUInt8.toNat : Nat) : Int) = (T : Int) / 256 := by rw [u8_mod]; omega
    have e2 : ((T.toUInt8.toNat : Nat) : Int) = (T : Int) % 256 := by rw [u8_mod]; omega
    simp only [bc, headB, List.map_cons, List.map_nil, e1, e2]
    rfl
  have hW : Below w.heap.size w (w.alloc (.cells #[.int .u8 167, .int .u8 ((T : Int) / 256), .int .u8 ((T : Int) % 256)] 5)) := (Below.refl _ _).alloc (Nat.le_refl _) _
  have own0 : Hid (OwnBy (w.alloc (.cells #[.int .u8 167, .int .u8 ((T : Int) / 256), .int .u8 ((T : Int) % 256)] 5)) w.heap.size (.slice (some ⟨w.heap.size, 0, none⟩) 3 3) (headB T)) := by
    have := new_own w (headB T) (by simp [headB])
    rw [hcells] at this
    exact this
  have src : Hid (Src Tryz.prog 1 32 (.slice A T cap) l.length (bc l) (w.alloc (.cells #[.int .u8 167, .int .u8 ((T : Int) / 256), .int .u8 ((T : Int) % 256)] 5))) := (HBI.out.below hW).src
  rw [hTT] at src
  have HW := Lib.hid hW
  have q1 : ¬ (16384 : Int) < (T : Int) := by omega
  clear hcells hW hTT hl
  go_enter Tryz.func110, Tryz.ntmps110
  go_wp2_with (at_builtin; refine wpList_append_by _ rfl _ _ 32 rfl w.heap.size (headB T) l _ _ rfl rfl own0.out (by rw [HTT.out]; exact src.out) ?_ ?_ ?_)
  · have : (headB T).length = 3 := rfl
    have := HTT.out
    omega
  intro v' w1 hown hg
  rw [← HPRE.out] at hown
  have HO := Lib.hid hown
  have HB := Lib.hid (HW.out.grown hg HW.out.size own0.out.rows)
  have HSUM := Lib.hid (rsum_any hown.bis (by rw [HPL.out]; omega))
  generalize preB l = F at *
  obtain ⟨A6, c6, rfl, g1, g2, g3⟩ := hown.bis
  have hS := sumB_lt F
  generalize sumB F = S at *
  have hS' : (S : Int) < 4294967296 := by omega
  have HS := Lib.hid hS
  clear hown hg g3 hS
  go_wp2_with fail
  refine (HSUM.out).mono ?_
  rintro e w2 ⟨rfl, rfl⟩
  have SRC := Lib.hid (new_word w1 S HS.out)
  have hA2 : Below w1.heap.size w1 (w1.alloc (.cells #[.int .u8 ((S : Int) / 16777216), .int .u8 ((S : Int) / 65536 % 256), .int .u8 ((S : Int) / 256 % 256), .int .u8 ((S : Int) % 256)] 5)) := (Below.refl _ _).alloc (Nat.le_refl _) _
  have HOB := Lib.hid (HO.out.below hA2)
  have HAB := Lib.hid (HB.out.trans (hA2.mono HB.out.size))
  clear hA2
  go_wp2_with (at_builtin; refine wpList_append_by _ rfl _ _ 32 rfl w.heap.size F (be4 S) _ _ rfl rfl HOB.out SRC.out ?_ HAB.out.size ?_)
  · rw [HPL.out]
    have : (be4 S).length = 4 := rfl
    omega
  intro v' w' hown hg
  have HO' := Lib.hid hown
  have HB' := Lib.hid (HAB.out.grown hg HAB.out.size HOB.out.rows)
  clear hown hg
  go_wp2
  go_ret
  exact ⟨_, rfl, by rw [HLEN.out]; exact HO'.out, HB'.out⟩
end Go.Proofs.YtnegnokielmgkaaGreatDoor

namespace Go.Proofs.YtnegnokielmgkaaGreatDoor
open Go.RowKit

/-- What Peel answers. -/
def PeelIs (w : World) (v : Value) (l : List UInt8) (e : Ending) (w' : World) : Prop :=
  ∃ x, e = .returned (.tuple #[x, .int .i64 (firstP l : Nat)]) ∧ (firstP l = 0 → x = .slice none 0 0) ∧ (firstP l ≠ 0 → BIs w' x (bodyP l) ∧ ∀ a n c, x = .slice (some a) n c → v.ownBlock = some a.block) ∧ Below w.heap.size w w'
theorem peelIs_no {w : World} {v : Value} {l : List UInt8} {w' : World} (h : firstP l = 0) (hb : Below w.heap.size w w') : PeelIs w v l (.returned (.tuple #[.slice none 0 0, .int .i64 0])) w' :=
  ⟨_, by rw [h]; rfl, fun _ => rfl, fun hn => absurd h hn, hb⟩
theorem frame_iff {l : List UInt8} {N : Nat} (hN : szP l = N) (h1 : N ≤ 16384) (h2 : N + 7 ≤ l.length) :
    (frameB ((l.drop 3).take N) = l.take (N + 7) → firstP l = N + 7) ∧ (frameB ((l.drop 3).take N) ≠ l.take (N + 7) → firstP l = 0) := by
  have hlen : ((l.drop 3).take N).length = N := by rw [List.length_take, List.length_drop]; omega
  constructor
  · intro h
    have := firstP_frame (l := (l.drop 3).take N) (by omega) (l.drop (N + 7))
    rw [h, List.take_append_drop, hlen] at this
    exact this
  · intro h
    refine Classical.byContradiction fun h0 => h ?_
    obtain ⟨m, hm, hl, _, _, he, _⟩ := firstP_pos h0
    rw [hN] at hm hl
    rw [← hm, he]
    have : (frameB m).length = N + 7 := by rw [frameB_len, hl]
    rw [← this, List.take_left]

set_option maxRecDepth 100000 in
set_option maxHeartbeats 4000000 in
theorem rpeel_any {w : World} {v : Value} {l : List UInt8} (h : BIs w v l) : Calls Tryz.prog 95 #[v] w (PeelIs w v l) := by
  by_cases h7 : l.length < 7
  · have e : firstP l = 0 := by unfold firstP; rw [if_pos (.inl h7)]
    obtain ⟨A, cap, rfl, h1, h2, h3⟩ := h
    have h7' : (l.length : Int) < 7 := by omega
    clear h3
    go_enter Tryz.func95, Tryz.ntmps95
    go_wp2_with fail
    go_ret2
    exact peelIs_no e (Below.refl _ _)
  · obtain ⟨a, cap, rfl, h1, h2, hat⟩ := h.at (by intro e; rw [e] at h7; simp at h7)
    have hc1 : w.cell? ⟨a.block, a.off + 1, none⟩ = some (.int .u8 ((l[1]'(by omega)).toNat : Int)) := hat.2 1 _ (List.getElem?_eq_getElem (by omega))
    have hc2 : w.cell? ⟨a.block, a.off + 2, none⟩ = some (.int .u8 ((l[2]'(by omega)).toNat : Int)) := hat.2 2 _ (List.getElem?_eq_getElem (by omega))
    have e1 : atN l 1 = (l[1]'(by omega)).toNat := by unfold atN; rw [List.getElem?_eq_getElem (by omega)]; rfl
    have e2 : atN l 2 = (l[2]'(by omega)).toNat := by unfold atN; rw [List.getElem?_eq_getElem (by omega)]; rfl
    rw [← e1] at hc1
    rw [← e2] at hc2
    clear e1 e2
    have h7' : ¬ (l.length : Int) < 7 := by omega
    have l1 : 1 < l.length := by omega
    have l2 : 2 < l.length := by omega
    have a1 := atN_lt l 1
    have a2 := atN_lt l 2
    have hsz : 256 * (atN l 1 : Int) + (atN l 2 : Int) = (szP l : Int) := by
      show 256 * (atN l 1 : Int) + (atN l 2 : Int) = ((atN l 1 * 256 + atN l 2 : Nat) : Int)
      omega
    have HIFF := Lib.hid (fun N (hN : szP l = N) => frame_iff (l := l) hN)
    have hbig : Hid (16384 < szP l ∨ l.length < szP l + 7 → firstP l = 0) := by
      intro h
      unfold firstP
      by_cases h0 : l.length < 7 ∨ atN l 0 ≠ 167
      · rw [if_pos h0]
      · rw [if_neg h0, if_pos (by omega)]
    have hN65 := szP_lt l
    generalize hNN : szP l = N at *
    have HNN := Lib.hid hNN
    generalize atN l 1 = y1 at *
    generalize atN l 2 = y2 at *
    have y1' : (y1 : Int) < 256 := by omega
    have y2' : (y2 : Int) < 256 := by omega
    have hN' : (N : Int) < 65536 := by omega
    have w1 : IntKind.i64.wrap (256 * (y1 : Int)) = 256 * (y1 : Int) := IntWalk.i64_in _ (by omega)
    have w2 : IntKind.i64.wrap (256 * (y1 : Int) + (y2 : Int)) = (N : Int) := by rw [hsz]; exact IntWalk.i64_in _ (by omega)
    unfold maxLen at h2
    have h2' : cap ≤ 9223372036854775807 := by omega
    have HAT := Lib.hid hat
    clear hNN hat
    by_cases hA : (16384 : Int) < (N : Int)
    · have HE : Hid (firstP l = 0) := hbig.out (by omega)
      go_enter Tryz.func95, Tryz.ntmps95
      go_wp2_with fail
      go_region
      go_wp2_with fail
      go_ret2
      exact peelIs_no HE.out (below_drew (Below.refl _ _))
    · by_cases hB : (l.length : Int) < (N : Int) + 7
      · have HE : Hid (firstP l = 0) := hbig.out (by omega)
        go_enter Tryz.func95, Tryz.ntmps95
        go_wp2_with fail
        go_region
        go_wp2_with fail
        go_ret2
        exact peelIs_no HE.out (below_drew (Below.refl _ _))
      · have hA1 : decide ((16384 : Int) < (N : Int)) = false := decide_eq_false hA
        have hB1 : decide ((l.length : Int) < (N : Int) + 7) = false := decide_eq_false (by omega)
        have HAB : Hid (N ≤ 16384 ∧ N + 7 ≤ l.length) := ⟨by omega, by omega⟩
        have q1 : N + 3 ≤ l.length := by omega
        have q2 : N + 7 ≤ cap := by omega
        have q3 : N + 3 ≤ cap := by omega
        clear hA hB hN65 hN'
        have hN' : (N : Int) ≤ 16384 := by have := HAB.out.1; omega
        go_enter Tryz.func95, Tryz.ntmps95
        go_wp2_with fail
        go_region
        go_wp2_with fail
        have HSUB : Hid (∀ W, Below w.heap.size w W → BIs W (.slice (some ⟨a.block, a.off + 3, none⟩) N (cap - 3)) ((l.drop 3).take N)) := fun W hW =>
          ((((HAT.out.drop 3 (by omega)).take N).bis (cap := cap - 3) (by rw [List.length_take, List.length_drop]; have := HAB.out.2; omega) (by omega) (by unfold maxLen; omega))).below hW
        have HTOP : Hid (∀ W, Below w.heap.size w W → BIs W (.slice (some a) (N + 7) cap) (l.take (N + 7))) := fun W hW =>
          ((HAT.out.take (N + 7)).bis (by rw [List.length_take]; have := HAB.out.2; omega) q2 (by unfold maxLen; omega)).below hW
        have hl2 : ((l.drop 3).take N).length ≤ 16384 := by rw [List.length_take]; have := HAB.out.1; omega
        have HRW := Lib.hid (fun W hW => rwrap_any (HSUB.out W hW) hl2)
        have r1 : IntKind.i64.wrap (3 + (N : Int)) = 3 + (N : Int) := IntWalk.i64_in _ (by omega)
        have r2 : IntKind.i64.wrap ((N : Int) + 7) = (N : Int) + 7 := IntWalk.i64_in _ (by omega)
        have r3 : 3 + (N : Int) ≤ (cap : Int) := by omega
        have r4 : (N : Int) + 7 ≤ (cap : Int) := by omega
        have r5 : (0 : Int) ≤ (N : Int) := by omega
        have r6 : (3 + (N : Int)).toNat = N + 3 := by omega
        have r7 : ((N : Int) + 7).toNat = N + 7 := by omega
        have r8 : ¬ cap = 3 := by omega
        have c0 := bis_string (HTOP.out w.drew (below_drew (Below.refl _ _)))
        have c1 := bis_string (HTOP.out w.drew.drew (below_drew (below_drew (Below.refl _ _))))
        have r9 : (0 : Int) ≤ 3 + (N : Int) := by omega
        have r10 : 3 + (N : Int) ≤ (l.length : Int) := by have := HAB.out.2; omega
        have r11 : (0 : Int) ≤ (N : Int) + 7 := by omega
        have r12 : (N : Int) + 7 ≤ (l.length : Int) := by have := HAB.out.2; omega
        have r13 : (3 : Int) ≤ 3 + (N : Int) := by omega
        clear hl2
        by_cases hC : frameB ((l.drop 3).take N) = l.take (N + 7)
        · have hB : (frameB ((l.drop 3).take N) == l.take (N + 7)) = true := beq_iff_eq.2 hC
          have HC := Lib.hid hC
          clear hC
          go_region_held (fun w' => (convert 32 9 (.slice (some a) (N + 7) cap)).run Tryz.prog w' = .ok (.string ⟨(l.take (N + 7)).toArray⟩) w') (first | exact c0 | exact c1 | assumption)
            (first | (go_at_call 110; refine (HRW.out _ (below_drew (below_drew (Below.refl _ _)))).mono ?_; rintro e wx ⟨x, rfl, hO, hb⟩; have hbx := (below_drew (below_drew (Below.refl w.heap.size w))).trans hb; have c2 := bis_string (HTOP.out wx hbx); have c3 := bis_string hO.bis))
          go_wp2_with fail
          go_ret2
          have e : firstP l = N + 7 := (HIFF.out N rfl HAB.out.1 HAB.out.2).1 HC.out
          refine ⟨_, by rw [e]; rfl, fun h => by omega, fun _ => ?_, ?_⟩
          · unfold bodyP
            rw [HNN.out]
            refine ⟨HSUB.out _ (by assumption), fun a' n' c' e => ?_⟩
            injection e with e _ _
            injection e with e
            subst e
            rfl
          · assumption
        · have hB : (frameB ((l.drop 3).take N) == l.take (N + 7)) = false := beq_eq_false_iff_ne.2 hC
          have HC := Lib.hid hC
          clear hC
          go_region_held (fun w' => (convert 32 9 (.slice (some a) (N + 7) cap)).run Tryz.prog w' = .ok (.string ⟨(l.take (N + 7)).toArray⟩) w') (first | exact c0 | exact c1 | assumption)
            (first | (go_at_call 110; refine (HRW.out _ (below_drew (below_drew (Below.refl _ _)))).mono ?_; rintro e wx ⟨x, rfl, hO, hb⟩; have hbx := (below_drew (below_drew (Below.refl w.heap.size w))).trans hb; have c2 := bis_string (HTOP.out wx hbx); have c3 := bis_string hO.bis))
          go_wp2_with fail
          go_ret2
          exact peelIs_no ((HIFF.out N rfl HAB.out.1 HAB.out.2).2 HC.out) (by assumption)
end Go.Proofs.YtnegnokielmgkaaGreatDoor

namespace Go.Proofs.YtnegnokielmgkaaGreatDoor
open Go.RowKit

/-- What the reference's frames answers: slices of the given bytes. -/
def RFramesP (w : World) (g : Nat) (l : List UInt8) (e : Ending) (w' : World) : Prop :=
  ∃ x xs, e = .returned (.tuple #[x, .int .i64 (endP (frmB l) : Nat)]) ∧ OwnS w' w.heap.size x xs ∧ BFs w' (fun k => k = g) xs (frmB l) ∧ Below w.heap.size w w'
theorem frm_le (l : List UInt8) : (frmB l).length ≤ l.length := Nat.le_trans (len_le_endP _) (frmB_is l).1.end_le
set_option maxRecDepth 100000 in
set_option maxHeartbeats 4000000 in
theorem rframes_any {w : World} {a : Addr} {cap : Nat} {l : List UInt8} (hat : At w a l) (hc : l.length ≤ cap) (hm : cap ≤ maxLen) (hl : l.length ≤ 1000000) (ha : a.block < w.heap.size) :
    Calls Tryz.prog 67 #[.slice (some a) l.length cap] w (RFramesP w a.block l) := by
  have HAT := Lib.hid hat
  have HA := Lib.hid ha
  have HL := Lib.hid hl
  unfold maxLen at hm
  have hl' : (l.length : Int) ≤ 1000000 := by omega
  clear hat ha hl
  go_enter Tryz.func67, Tryz.ntmps67
  go_wp2_with fail
  go_loopw [4, 5] (fun x at' wr => ∃ xs ls, at' = .int .i64 (endP ls : Nat) ∧ OwnS wr w.heap.size x xs ∧ BFs wr (fun k => k = a.block) xs ls ∧ Begins l ls ∧ Below w.heap.size w wr) (fun _ at' _ => l.length - (intOf at').toNat)
  case atStart => exact ⟨[], [], rfl, Or.inl ⟨rfl, rfl⟩, BFs.nil _ _, Begins.nil l, Below.refl _ _⟩
  case round =>
    obtain ⟨xs, ls, rfl, hown, hbo, hbe, hb⟩ := hrel
    have hE := hbe.end_le
    have hls := len_le_endP ls
    have HOW := Lib.hid hown
    have HBO := Lib.hid hbo
    have HBE := Lib.hid hbe
    have HBb := Lib.hid hb
    have HUN := Lib.hid (fun (h : firstP (l.drop (endP ls)) = 0) => frmB_uniq hbe h)
    have HSN := Lib.hid (fun (h : firstP (l.drop (endP ls)) ≠ 0) => hbe.snoc h)
    clear hown hbo hbe hb
    by_cases k1 : cap = endP ls
    · have hd : l.drop (endP ls) = [] := List.drop_eq_nil_of_le (by omega)
      have h0 : firstP (l.drop (endP ls)) = 0 := by rw [hd]; rfl
      have HP := Lib.hid (rpeel_any (w := wr) (v := .slice (some a) 0 0) (l := []) ⟨some a, 0, rfl, Nat.le_refl _, by unfold maxLen; omega, fun i b hi => by simp at hi⟩)
      have HE := Lib.hid (HUN.out h0)
      clear h0 hd
      generalize hEE : endP ls = E at *
      have HEE := Lib.hid hEE
      clear hEE
      subst k1
      go_wp2_with fail
      refine (HP.out).mono ?_
      rintro e w2 ⟨x, rfl, hx, hx2, hb2⟩
      rw [show ((firstP ([] : List UInt8) : Nat) : Int) = 0 from rfl]
      obtain rfl := hx rfl
      clear hx hx2
      have HO2 := Lib.hid (HOW.out.below hb2)
      have HB2 := Lib.hid (HBO.out.below hb2)
      have HBB := Lib.hid (HBb.out.trans (hb2.mono HBb.out.size))
      clear hb2
      go_wp2_with fail
      go_ret2
      exact ⟨_, xs, by rw [HE.out, HEE.out]; rfl, HO2.out, by rw [HE.out]; exact HB2.out, HBB.out⟩
    · have hv : BIs wr (.slice (some (a.add (endP ls))) (l.length - endP ls) (cap - endP ls)) (l.drop (endP ls)) := by
        have := (HAT.out.from (endP ls) (l.length - endP ls) cap (by omega) hc (by unfold maxLen; omega)).below HBb.out
        rwa [List.take_of_length_le (by rw [List.length_drop]; omega)] at this
      have HP := Lib.hid (rpeel_any hv)
      have hbd : (firstP (l.drop (endP ls)) ≠ 0 → firstP (l.drop (endP ls)) + endP ls ≤ l.length) := fun h => by
        have h2 := (HSN.out h).1.end_le
        rw [endP_snoc] at h2
        have := (HSN.out h).2.1
        omega
      have hfin : firstP (l.drop (endP ls)) ≠ 0 → endP (ls ++ [bodyP (l.drop (endP ls))]) = endP ls + firstP (l.drop (endP ls)) := fun h => by
        rw [endP_snoc, (HSN.out h).2.1]
      have HFIN := Lib.hid hfin
      clear hv hfin
      generalize hFF : firstP (l.drop (endP ls)) = F at *
      generalize hBQ : bodyP (l.drop (endP ls)) = B at *
      generalize hEE : endP ls = E at *
      have HEE := Lib.hid hEE
      clear hEE
      have q1 : (E : Int) ≤ (cap : Int) := by omega
      have q2 : E ≤ cap := by omega
      have q3 : ¬ cap = E := k1
      have HBQ := Lib.hid hBQ
      clear hBQ
      by_cases h0 : F = 0
      · have HE := Lib.hid (HUN.out h0)
        subst h0
        have HFF := Lib.hid hFF
        clear hbd hFF
        go_wp2_with fail
        refine (HP.out).mono ?_
        rintro e w2 ⟨x, rfl, hx, hx2, hb2⟩
        rw [HFF.out, show ((0 : Nat) : Int) = 0 from rfl]
        obtain rfl := hx HFF.out
        clear hx hx2
        have HO2 := Lib.hid (HOW.out.below hb2)
        have HB2 := Lib.hid (HBO.out.below hb2)
        have HBB := Lib.hid (HBb.out.trans (hb2.mono HBb.out.size))
        clear hb2
        go_wp2_with fail
        go_ret2
        exact ⟨_, xs, by rw [HE.out, HEE.out]; rfl, HO2.out, by rw [HE.out]; exact HB2.out, HBB.out⟩
      · have hbd' := hbd h0
        have HN0 := Lib.hid h0
        have HFF := Lib.hid hFF
        have l1 : ((F : Int) == 0) = false := by rw [beq_eq_false_iff_ne]; omega
        have l2 : ¬ (F : Int) = 0 := by omega
        clear hbd hFF
        go_wp2_with fail
        refine (HP.out).mono ?_
        rintro e w2 ⟨x, rfl, _, hx, hb2⟩
        rw [HFF.out] at hx ⊢
        obtain ⟨hxb, hxk⟩ := hx HN0.out
        rw [HBQ.out] at hxb
        have hxF : BF w2 (fun k => k = a.block) x B := ⟨hxb, fun a' n' c' e => by have h2 : (a.add E).block = a'.block := Option.some.inj (hxk a' n' c' e); have h3 := HA.out; have h4 := HBb.out.size; have h5 := hb2.size; rw [add_block] at h2; exact ⟨h2.symm, by omega⟩⟩
        obtain ⟨Ax, cx, rfl, _, _, _⟩ := id hxb
        have HO2 := Lib.hid (HOW.out.below hb2)
        have HB2 := Lib.hid ((HBO.out.below hb2).append (BFs.one hxF))
        have HBB := Lib.hid (HBb.out.trans (hb2.mono HBb.out.size))
        have hA := Below.new (w := w2) (.cells #[.slice Ax B.length cx] 32)
        have HO3 := Lib.hid (HO2.out.below hA)
        have HB3 := Lib.hid (HB2.out.below hA)
        have HBB3 := Lib.hid (HBB.out.trans (hA.mono HBB.out.size))
        have src : Hid (Src Tryz.prog 1 42 (.slice (some ⟨w2.heap.size, 0, none⟩) 1 1) [Value.slice Ax B.length cx].length [.slice Ax B.length cx] (w2.alloc (.cells #[.slice Ax B.length cx] 32))) :=
          Src.ofSlice _ Tryz.underlying42 ⟨w2.heap.size, 0, none⟩ 1 1 [.slice Ax B.length cx] rfl (one_new _ _ rfl _ _) (by simp [Value.oneCell'])
        have hxl : xs.length ≤ 1000000 := by have := HBO.out.1; have := HL.out; omega
        clear hA hx hxb hxk hxF hb2
        have w3 : IntKind.i64.wrap ((E : Int) + (F : Int)) = ((E + F : Nat) : Int) := by rw [IntWalk.i64_in _ (by omega)]; omega
        go_wp2_with (at_builtin; refine wpList_append_vals _ rfl _ _ 42 rfl w.heap.size xs [.slice Ax B.length cx] _ _ rfl rfl HO3.out src.out ?_ HBB3.out.size ?_)
        · simp; omega
        intro v' w' hown' hgrow hblk
        have HOF := Lib.hid hown'
        have hg : ∀ k, v'.ownBlock = some k → True := fun _ _ => trivial
        have HBF := Lib.hid (HB3.out.grown hgrow (fun k hk hka => by have h1 := HO3.out.lt k hk; have h2 := HA.out; have h3 := h1.1; omega))
        have HBB4 := Lib.hid (HBB3.out.grown hgrow HBB3.out.size (fun k hk => (HO3.out.lt k hk).1))
        clear hown' hgrow hblk hg
        go_wp2_with fail
        go_roundw
        case rel => exact ⟨xs ++ [.slice Ax B.length cx], ls ++ [B], by rw [HFIN.out HN0.out]; go_num, HOF.out, HBF.out, (HSN.out HN0.out).1, HBB4.out⟩
        case measure => simp [intOf]; omega
set_option maxRecDepth 100000 in
set_option maxHeartbeats 2000000 in
theorem rbegins_any {w : World} {a : Addr} {cap : Nat} {l : List UInt8} (hat : At w a l) (hc : l.length ≤ cap) (hm : cap ≤ maxLen) (hl : l.length ≤ 1000000) (ha : a.block < w.heap.size) :
    Calls Tryz.prog 68 #[.slice (some a) l.length cap] w fun e w' => e = .returned (.bool (checkB (frmB l)).isSome) ∧ Below w.heap.size w w' := by
  have HF := Lib.hid (rframes_any hat hc hm hl ha)
  have HA := Lib.hid ha
  have HLF := Lib.hid (Nat.le_trans (frm_le l) hl)
  clear hat hc hm hl ha
  go_enter Tryz.func68, Tryz.ntmps68
  go_wp2_with fail
  refine (HF.out).mono ?_
  rintro e w1 ⟨x, xs, rfl, hown, hbf, hb⟩
  have HB := Lib.hid hb
  have hlf := HLF.out
  cases hq : frmB l with
  | nil =>
    have HQ := Lib.hid hq
    rw [hq] at hbf hlf
    have h0 : xs.length = 0 := hbf.1
    obtain ⟨A, c, rfl, _, _, _, _⟩ := hown.vis
    rw [h0]
    clear hown hbf hb h0 hq
    go_wp2_with fail
    go_ret
    exact ⟨by rw [HQ.out]; rfl, HB.out⟩
  | cons m ls =>
    have HQ := Lib.hid hq
    rw [hq] at hbf hlf
    have h0 : xs.length = ls.length + 1 := hbf.1
    obtain ⟨y, ys, rfl⟩ : ∃ y ys, xs = y :: ys := by cases xs with | nil => cases h0 | cons y ys => exact ⟨y, ys, rfl⟩
    obtain ⟨A, c, rfl, hc1, hc2, ha1, hv⟩ := hown.vis
    obtain ⟨av, rfl, hav⟩ := hv 0 y rfl
    rw [show av.add 0 = av from by simp [Addr.add]] at hav
    have hy := hbf.2 0 y m rfl rfl
    obtain ⟨Ay, cy, rfl, hy1, hy2, hy3⟩ := hy.1
    have l1 : (0 : Int) < ((ls.length + 1 : Nat) : Int) := by omega
    have l2 : 0 < ls.length + 1 := by omega
    rw [h0]
    clear hown hbf hb hc1 hc2 ha1 hv hy hq hlf h0
    generalize ls.length + 1 = k at *
    cases m with
    | nil =>
      clear hy3
      go_wp2_with fail
      go_ret
      exact ⟨by rw [HQ.out]; rfl, HB.out⟩
    | cons b r =>
      obtain ⟨ab, rfl, hab, hb0⟩ := hy3 0 b rfl
      rw [show ab.add 0 = ab from by simp [Addr.add]] at hb0
      have l3 : (0 : Int) < (((b :: r).length : Nat) : Int) := by rw [List.length_cons]; omega
      have l4 : 0 < (b :: r).length := by rw [List.length_cons]; omega
      have hck : (checkB ((b :: r) :: ls)).isSome = ((b.toNat : Int) == 1) := by
        show (if b.toNat = 1 then some r else none : Option (List UInt8)).isSome = _
        by_cases hb1 : b.toNat = 1
        · rw [if_pos hb1, hb1]; rfl
        · rw [if_neg hb1]; exact (show ((b.toNat : Int) == 1) = false by rw [beq_eq_false_iff_ne]; omega).symm
      have HCK := Lib.hid hck
      clear hy3 hck
      generalize (b :: r).length = kk at *
      generalize hz : (b.toNat : Int) = z at *
      clear hz
      by_cases hz1 : z = 1
      · subst hz1
        go_wp2_with fail
        go_ret
        exact ⟨by rw [HQ.out, HCK.out]; rfl, HB.out⟩
      · have hz2 : (z == 1) = false := by rw [beq_eq_false_iff_ne]; exact hz1
        go_wp2_with fail
        go_ret
        exact ⟨by rw [HQ.out, HCK.out, hz2]; rfl, HB.out⟩
end Go.Proofs.YtnegnokielmgkaaGreatDoor
