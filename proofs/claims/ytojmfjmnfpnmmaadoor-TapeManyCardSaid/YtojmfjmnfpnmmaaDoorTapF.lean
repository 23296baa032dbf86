/- The tape: fits, grown. -/
import Derived.Test.YtojmfjmnfpnmmaaDoorTapE
set_option linter.unusedSimpArgs false
set_option linter.unusedVariables false
set_option linter.unnecessarySimpa false
namespace Go.Proofs.YtojmfjmnfpnmmaaDoor
open Go.RowKit
open Go.Maps (Keyed)

theorem run_tape_hit {w : World} {mo : Option Nat} {L : List Ent} {c : Nat} (h : MapPart w mo L c) {n : Int} (hn : nameB n = true) {j : Nat} {e : Ent} (hj : L[j]? = some e) (he : e.n = n) : (Instr.lookup 54 (.map mo) (.int .i64 n) false).run Tryd.prog w = .ok (.pointer (some ⟨e.sb, 0, none⟩)) w := by
  cases mo with
  | none =>
    have h : L = [] := h
    rw [h] at hj
    cases hj
  | some r => exact (h : MapIs _ _ w r (L.map Ent.me) c).look_hit keyed Tryd.underlying54 (key_int hn) (me_at hj) (by rw [← he]; rfl) false
theorem run_tape_miss {w : World} {mo : Option Nat} {L : List Ent} {c : Nat} (h : MapPart w mo L c) {n : Int} (hn : nameB n = true) (hL : ∀ e ∈ L, e.n ≠ n) : (Instr.lookup 54 (.map mo) (.int .i64 n) false).run Tryd.prog w = .ok (.pointer none) w := by
  cases mo with
  | none => exact Go.Maps.look_nil (w := w) false keyed Tryd.underlying54 (zeroPtr w) (key_int hn)
  | some r => exact (h : MapIs _ _ w r (L.map Ent.me) c).look_miss keyed Tryd.underlying54 (zeroPtr w) (key_int hn) (me_miss hL) false

set_option maxRecDepth 100000 in
set_option maxHeartbeats 1000000 in
theorem fits_full {w : World} {t : Nat} {T : Tp} {v : Value} {ls : List (List UInt8)} {seg : Int} (hT : TapeAt w t T) (h : PIs w v ls) (hl : ls.flatten.length ≤ 1073741824) (hd : T.room - used T.L < ls.flatten.length) :
    Calls Tryd.prog 31 #[.pointer (some ⟨t, 0, none⟩), .int .i64 seg, v] w fun e w' => ∃ v, e = .returned v ∧ ErrP 5 w v w' := by
  have HF := Lib.hid (fun W (hW : Below w.heap.size w W) => free_any (hT.below hW))
  have HMP := Lib.hid (fun W (hW : Below w.heap.size w W) => (hT.below hW).map)
  have HC0 := Lib.hid (fun W (hW : Below w.heap.size w W) => (cell_of (hT.below hW).head 0 : W.cell? ⟨t, 0, none⟩ = some (.map T.m)))
  obtain ⟨A, cap, rfl, h1, h2, h3⟩ := h
  unfold maxLen at h2
  have H3 := Lib.hid h3
  have h2' : ls.length ≤ 9223372036854775807 := by omega
  have HL := Lib.hid hl
  clear h3 hl hT
  go_enter Tryd.func31, Tryd.ntmps31
  go_wp2_with fail
  go_loopw [7, 14] (fun s i wr => ∃ k : Nat, k ≤ ls.length ∧ i = .int .i64 k ∧ s = .int .i64 (tot ls k : Nat) ∧ w = wr) (fun _ i _ => ls.length - (intOf i).toNat)
  case atStart => exact ⟨0, by omega, rfl, rfl, rfl⟩
  case round =>
    obtain ⟨k, hk, rfl, rfl, rfl⟩ := hrel
    by_cases hlt : k < ls.length
    · obtain ⟨a, x, rfl, hab, hcx, hB⟩ := H3.out k ls[k] (List.getElem?_eq_getElem hlt)
      obtain ⟨B, cx, rfl, g1, g2, g3⟩ := hB
      have e1 := flat_take hlt
      have e2 : tot ls (k + 1) ≤ ls.flatten.length := flat_le (ls := ls) (k + 1)
      have e3 := HL.out
      have HE : Hid ((tot ls (k + 1) : Int) = (tot ls k : Int) + (ls[k].length : Int)) := by
        show _ = _
        unfold tot
        rw [e1, List.length_append]; omega
      have q1 : (tot ls k : Int) + (ls[k].length : Int) ≤ 1073741824 := by have := HE.out; omega
      clear e1 e2 e3 g3
      go_wp2_with fail
      go_roundw
      case rel => exact ⟨k + 1, by omega, by go_num, by rw [HE.out], by first | rfl | trivial⟩
      case measure => simp [intOf]; omega
    · obtain rfl : k = ls.length := by omega
      have hT0 : tot ls ls.length = ls.flatten.length := by unfold tot; rw [List.take_length]
      rw [hT0]
      have HFF := Lib.hid (HF.out _ (Below.refl _ _))
      have hd30 : (ls.flatten.length : Int) ≤ 1073741824 := by have := HL.out; omega
      clear hT0
      generalize ls.flatten.length = d at *
      go_wp2_with fail
      refine (HFF.out).mono ?_
      rintro e w1 ⟨rfl, hb1⟩
      have HB1 := Lib.hid hb1
      have hc0 := HC0.out _ hb1
      have HM1 := Lib.hid (HMP.out _ hb1)
      clear hb1
      generalize T.room - used T.L = fr at *
      have q1 : (fr : Int) < (d : Int) := by omega
      have HN := Lib.hid (new_any 5 w1)
      go_wp2_with fail
      refine (HN.out).mono ?_
      rintro e w2 ⟨v2, rfl, he2, hb2⟩
      have HA := Lib.hid (at_any seg he2)
      have HB2 := Lib.hid (HB1.out.trans (hb2.mono HB1.out.size))
      clear he2 hb2
      go_wp2_with fail
      refine (HA.out).mono ?_
      rintro e w3 ⟨v3, rfl, he3, hb3⟩
      have HBD := Lib.hid (bound_any (fr : Int) (d : Int) he3)
      have HB3 := Lib.hid (HB2.out.trans (hb3.mono HB2.out.size))
      clear he3 hb3
      go_wp2_with fail
      refine (HBD.out).mono ?_
      rintro e w4 ⟨v4, rfl, he4, hb4⟩
      have H4 : Hid (ErrP 5 w v4 w4) := .of _ he4 (HB3.out.trans (hb4.mono HB3.out.size)) rfl (by simp [newL, onto_cons]) (by decide) (.cons rfl (.cons rfl (numOk_one (by decide)))) (by simp [newL, onto_cons])
      clear he4 hb4
      go_wp2
      go_ret
      exact ⟨_, rfl, H4.out⟩
set_option maxRecDepth 100000 in
set_option maxHeartbeats 1000000 in
theorem fits_many {w : World} {t : Nat} {T : Tp} {v : Value} {ls : List (List UInt8)} {seg : Int} (hT : TapeAt w t T) (h : PIs w v ls) (hl : ls.flatten.length ≤ 1073741824) (hd : ls.flatten.length ≤ T.room - used T.L) (hn : nameB seg = true) (hL : ∀ e ∈ T.L, e.n ≠ seg) (h64 : 64 ≤ T.L.length) :
    Calls Tryd.prog 31 #[.pointer (some ⟨t, 0, none⟩), .int .i64 seg, v] w fun e w' => ∃ v, e = .returned v ∧ ErrP 5 w v w' := by
  have HF := Lib.hid (fun W (hW : Below w.heap.size w W) => free_any (hT.below hW))
  have HMP := Lib.hid (fun W (hW : Below w.heap.size w W) => (hT.below hW).map)
  have HC0 := Lib.hid (fun W (hW : Below w.heap.size w W) => (cell_of (hT.below hW).head 0 : W.cell? ⟨t, 0, none⟩ = some (.map T.m)))
  obtain ⟨A, cap, rfl, h1, h2, h3⟩ := h
  unfold maxLen at h2
  have H3 := Lib.hid h3
  have h2' : ls.length ≤ 9223372036854775807 := by omega
  have HL := Lib.hid hl
  have HN0 := Lib.hid hn
  have HLL := Lib.hid hL
  have h64b := hT.few
  clear hn hL
  clear h3 hl hT
  go_enter Tryd.func31, Tryd.ntmps31
  go_wp2_with fail
  go_loopw [7, 14] (fun s i wr => ∃ k : Nat, k ≤ ls.length ∧ i = .int .i64 k ∧ s = .int .i64 (tot ls k : Nat) ∧ w = wr) (fun _ i _ => ls.length - (intOf i).toNat)
  case atStart => exact ⟨0, by omega, rfl, rfl, rfl⟩
  case round =>
    obtain ⟨k, hk, rfl, rfl, rfl⟩ := hrel
    by_cases hlt : k < ls.length
    · obtain ⟨a, x, rfl, hab, hcx, hB⟩ := H3.out k ls[k] (List.getElem?_eq_getElem hlt)
      obtain ⟨B, cx, rfl, g1, g2, g3⟩ := hB
      have e1 := flat_take hlt
      have e2 : tot ls (k + 1) ≤ ls.flatten.length := flat_le (ls := ls) (k + 1)
      have e3 := HL.out
      have HE : Hid ((tot ls (k + 1) : Int) = (tot ls k : Int) + (ls[k].length : Int)) := by
        show _ = _
        unfold tot
        rw [e1, List.length_append]; omega
      have q1 : (tot ls k : Int) + (ls[k].length : Int) ≤ 1073741824 := by have := HE.out; omega
      clear e1 e2 e3 g3
      go_wp2_with fail
      go_roundw
      case rel => exact ⟨k + 1, by omega, by go_num, by rw [HE.out], by first | rfl | trivial⟩
      case measure => simp [intOf]; omega
    · obtain rfl : k = ls.length := by omega
      have hT0 : tot ls ls.length = ls.flatten.length := by unfold tot; rw [List.take_length]
      rw [hT0]
      have HFF := Lib.hid (HF.out _ (Below.refl _ _))
      have hd30 : (ls.flatten.length : Int) ≤ 1073741824 := by have := HL.out; omega
      clear hT0
      generalize ls.flatten.length = d at *
      go_wp2_with fail
      refine (HFF.out).mono ?_
      rintro e w1 ⟨rfl, hb1⟩
      have HB1 := Lib.hid hb1
      have hc0 := HC0.out _ hb1
      have HM1 := Lib.hid (HMP.out _ hb1)
      clear hb1
      generalize T.room - used T.L = fr at *
      have q1 : ¬ (fr : Int) < (d : Int) := by omega
      have q2 : (64 : Int) ≤ (T.L.length : Int) := by omega
      have hlk := run_tape_miss HM1.out HN0.out HLL.out
      go_wp2_with (first | (at_len; refine wpList_tape_len _ rfl _ rfl HM1.out rfl ?_))
      have HN := Lib.hid (new_any 5 w1)
      refine (HN.out).mono ?_
      rintro e w2 ⟨v2, rfl, he2, hb2⟩
      have HA := Lib.hid (at_any seg he2)
      have HB2 := Lib.hid (HB1.out.trans (hb2.mono HB1.out.size))
      clear he2 hb2
      go_wp2_with fail
      refine (HA.out).mono ?_
      rintro e w3 ⟨v3, rfl, he3, hb3⟩
      have HBD := Lib.hid (bound_any (64 : Int) (T.L.length : Int) he3)
      have HB3 := Lib.hid (HB2.out.trans (hb3.mono HB2.out.size))
      clear he3 hb3
      go_wp2_with fail
      refine (HBD.out).mono ?_
      rintro e w4 ⟨v4, rfl, he4, hb4⟩
      have H4 : Hid (ErrP 5 w v4 w4) := .of _ he4 (HB3.out.trans (hb4.mono HB3.out.size)) rfl (by simp [newL, onto_cons]) (by decide) (.cons rfl (.cons rfl (numOk_one (by decide)))) (by simp [newL, onto_cons])
      clear he4 hb4
      go_wp2
      go_ret
      exact ⟨_, rfl, H4.out⟩
set_option maxRecDepth 100000 in
set_option maxHeartbeats 1000000 in
theorem fits_few {w : World} {t : Nat} {T : Tp} {v : Value} {ls : List (List UInt8)} {seg : Int} (hT : TapeAt w t T) (h : PIs w v ls) (hl : ls.flatten.length ≤ 1073741824) (hd : ls.flatten.length ≤ T.room - used T.L) (h64 : T.L.length < 64) :
    Calls Tryd.prog 31 #[.pointer (some ⟨t, 0, none⟩), .int .i64 seg, v] w fun e w' => ∃ v, e = .returned v ∧ ErrP 0 w v w' := by
  have HF := Lib.hid (fun W (hW : Below w.heap.size w W) => free_any (hT.below hW))
  have HMP := Lib.hid (fun W (hW : Below w.heap.size w W) => (hT.below hW).map)
  have HC0 := Lib.hid (fun W (hW : Below w.heap.size w W) => (cell_of (hT.below hW).head 0 : W.cell? ⟨t, 0, none⟩ = some (.map T.m)))
  obtain ⟨A, cap, rfl, h1, h2, h3⟩ := h
  unfold maxLen at h2
  have H3 := Lib.hid h3
  have h2' : ls.length ≤ 9223372036854775807 := by omega
  have HL := Lib.hid hl
  clear h3 hl hT
  go_enter Tryd.func31, Tryd.ntmps31
  go_wp2_with fail
  go_loopw [7, 14] (fun s i wr => ∃ k : Nat, k ≤ ls.length ∧ i = .int .i64 k ∧ s = .int .i64 (tot ls k : Nat) ∧ w = wr) (fun _ i _ => ls.length - (intOf i).toNat)
  case atStart => exact ⟨0, by omega, rfl, rfl, rfl⟩
  case round =>
    obtain ⟨k, hk, rfl, rfl, rfl⟩ := hrel
    by_cases hlt : k < ls.length
    · obtain ⟨a, x, rfl, hab, hcx, hB⟩ := H3.out k ls[k] (List.getElem?_eq_getElem hlt)
      obtain ⟨B, cx, rfl, g1, g2, g3⟩ := hB
      have e1 := flat_take hlt
      have e2 : tot ls (k + 1) ≤ ls.flatten.length := flat_le (ls := ls) (k + 1)
      have e3 := HL.out
      have HE : Hid ((tot ls (k + 1) : Int) = (tot ls k : Int) + (ls[k].length : Int)) := by
        show _ = _
        unfold tot
        rw [e1, List.length_append]; omega
      have q1 : (tot ls k : Int) + (ls[k].length : Int) ≤ 1073741824 := by have := HE.out; omega
      clear e1 e2 e3 g3
      go_wp2_with fail
      go_roundw
      case rel => exact ⟨k + 1, by omega, by go_num, by rw [HE.out], by first | rfl | trivial⟩
      case measure => simp [intOf]; omega
    · obtain rfl : k = ls.length := by omega
      have hT0 : tot ls ls.length = ls.flatten.length := by unfold tot; rw [List.take_length]
      rw [hT0]
      have HFF := Lib.hid (HF.out _ (Below.refl _ _))
      have hd30 : (ls.flatten.length : Int) ≤ 1073741824 := by have := HL.out; omega
      clear hT0
      generalize ls.flatten.length = d at *
      go_wp2_with fail
      refine (HFF.out).mono ?_
      rintro e w1 ⟨rfl, hb1⟩
      have HB1 := Lib.hid hb1
      have hc0 := HC0.out _ hb1
      have HM1 := Lib.hid (HMP.out _ hb1)
      clear hb1
      generalize T.room - used T.L = fr at *
      have q1 : ¬ (fr : Int) < (d : Int) := by omega
      have q2 : ¬ (64 : Int) ≤ (T.L.length : Int) := by omega
      go_wp2_with (first | (at_len; refine wpList_tape_len _ rfl _ rfl HM1.out rfl ?_))
      go_wp2
      go_ret
      exact ⟨_, rfl, (ErrP.none w).ahead HB1.out⟩
set_option maxRecDepth 100000 in
set_option maxHeartbeats 1000000 in
theorem fits_hit {w : World} {t : Nat} {T : Tp} {v : Value} {ls : List (List UInt8)} {seg : Int} (hT : TapeAt w t T) (h : PIs w v ls) (hl : ls.flatten.length ≤ 1073741824) (hd : ls.flatten.length ≤ T.room - used T.L) (hn : nameB seg = true) {j : Nat} {e : Ent} (hj : T.L[j]? = some e) (he : e.n = seg) :
    Calls Tryd.prog 31 #[.pointer (some ⟨t, 0, none⟩), .int .i64 seg, v] w fun e w' => ∃ v, e = .returned v ∧ ErrP 0 w v w' := by
  have HF := Lib.hid (fun W (hW : Below w.heap.size w W) => free_any (hT.below hW))
  have HMP := Lib.hid (fun W (hW : Below w.heap.size w W) => (hT.below hW).map)
  have HC0 := Lib.hid (fun W (hW : Below w.heap.size w W) => (cell_of (hT.below hW).head 0 : W.cell? ⟨t, 0, none⟩ = some (.map T.m)))
  obtain ⟨A, cap, rfl, h1, h2, h3⟩ := h
  unfold maxLen at h2
  have H3 := Lib.hid h3
  have h2' : ls.length ≤ 9223372036854775807 := by omega
  have HL := Lib.hid hl
  have HN0 := Lib.hid hn
  have HJ := Lib.hid hj
  have HEN := Lib.hid he
  have h64b := hT.few
  clear hn hj he
  clear h3 hl hT
  go_enter Tryd.func31, Tryd.ntmps31
  go_wp2_with fail
  go_loopw [7, 14] (fun s i wr => ∃ k : Nat, k ≤ ls.length ∧ i = .int .i64 k ∧ s = .int .i64 (tot ls k : Nat) ∧ w = wr) (fun _ i _ => ls.length - (intOf i).toNat)
  case atStart => exact ⟨0, by omega, rfl, rfl, rfl⟩
  case round =>
    obtain ⟨k, hk, rfl, rfl, rfl⟩ := hrel
    by_cases hlt : k < ls.length
    · obtain ⟨a, x, rfl, hab, hcx, hB⟩ := H3.out k ls[k] (List.getElem?_eq_getElem hlt)
      obtain ⟨B, cx, rfl, g1, g2, g3⟩ := hB
      have e1 := flat_take hlt
      have e2 : tot ls (k + 1) ≤ ls.flatten.length := flat_le (ls := ls) (k + 1)
      have e3 := HL.out
      have HE : Hid ((tot ls (k + 1) : Int) = (tot ls k : Int) + (ls[k].length : Int)) := by
        show _ = _
        unfold tot
        rw [e1, List.length_append]; omega
      have q1 : (tot ls k : Int) + (ls[k].length : Int) ≤ 1073741824 := by have := HE.out; omega
      clear e1 e2 e3 g3
      go_wp2_with fail
      go_roundw
      case rel => exact ⟨k + 1, by omega, by go_num, by rw [HE.out], by first | rfl | trivial⟩
      case measure => simp [intOf]; omega
    · obtain rfl : k = ls.length := by omega
      have hT0 : tot ls ls.length = ls.flatten.length := by unfold tot; rw [List.take_length]
      rw [hT0]
      have HFF := Lib.hid (HF.out _ (Below.refl _ _))
      have hd30 : (ls.flatten.length : Int) ≤ 1073741824 := by have := HL.out; omega
      clear hT0
      generalize ls.flatten.length = d at *
      go_wp2_with fail
      refine (HFF.out).mono ?_
      rintro e w1 ⟨rfl, hb1⟩
      have HB1 := Lib.hid hb1
      have hc0 := HC0.out _ hb1
      have HM1 := Lib.hid (HMP.out _ hb1)
      clear hb1
      generalize T.room - used T.L = fr at *
      have q1 : ¬ (fr : Int) < (d : Int) := by omega
      by_cases h64 : T.L.length < 64
      · have q2 : ¬ (64 : Int) ≤ (T.L.length : Int) := by omega
        go_wp2_with (first | (at_len; refine wpList_tape_len _ rfl _ rfl HM1.out rfl ?_))
        go_wp2
        go_ret
        exact ⟨_, rfl, (ErrP.none w).ahead HB1.out⟩
      · have q2 : (64 : Int) ≤ (T.L.length : Int) := by omega
        have hlk := run_tape_hit HM1.out HN0.out HJ.out HEN.out
        go_wp2_with (first | (at_len; refine wpList_tape_len _ rfl _ rfl HM1.out rfl ?_))
        go_wp2
        go_ret
        exact ⟨_, rfl, (ErrP.none w).ahead HB1.out⟩
end Go.Proofs.YtojmfjmnfpnmmaaDoor
