/- JournalLasts: a fuse, the power, a sync of a law's own journal. JournalLasts: the reference's Same of two lists that are the same. -/
import Derived.Test.YtnegnokielmgkaaGreatDoorZJlaA
import Derived.Test.YtnegnokielmgkaaGreatDoorZJsaE
import Derived.Test.YtnegnokielmgkaaGreatDoorZTapK
set_option linter.unusedSimpArgs false
set_option linter.unusedVariables false
set_option linter.unnecessarySimpa false
namespace Go.Proofs.YtnegnokielmgkaaGreatDoor
open Go.RowKit

def fuseN (n : Int) : Int := if 0 ≤ n then n else -1
theorem tp_fuse {w : World} {t : Nat} {T : Tp} {p : Pl} (h : TP w t T p) (hd : p.down = false) {n : Int} (hn : n ≤ 9223372036854775807) : Calls Tryz.prog 30 #[.pointer (some ⟨t, 0, none⟩), .int .i64 n] w fun e w' => e = .returned (.tuple #[]) ∧ TPd w t T { p with fuse := fuseN n } w' := by
  have hT : T.down = false := by
    have := h.eq.down
    rw [hd] at this
    exact this
  refine (fuse_ok h.tape hT hn).mono fun e w' ⟨e1, k1, k2⟩ => ⟨e1, { T with fused := decide (0 ≤ n), left := n.toNat }, ⟨k1, ⟨h.eq.room, h.eq.A, ?_, h.eq.down⟩, h.rises⟩, k2.mono (fun k _ hk => by subst hk; exact t_mem), fun k hk => .inl hk⟩
  show fuseT { T with fused := decide (0 ≤ n), left := n.toNat } = fuseN n
  unfold fuseT fuseN
  by_cases h0 : 0 ≤ n
  · simp [h0]; omega
  · simp [h0]
theorem jaq_fuse {w0 w : World} {N j t q : Nat} {J : Js} (h : JAwq w0 w N j t q J) (hd : J.p.down = false) {n : Int} (hn : n ≤ 9223372036854775807) : Calls Tryz.prog 30 #[.pointer (some ⟨t, 0, none⟩), .int .i64 n] w fun e w' => e = .returned (.tuple #[]) ∧ JAwq w0 w' w'.heap.size j t q { J with p := { J.p with fuse := fuseN n } } := by
  obtain ⟨h1, h2, h3, h4, h7, h8, h9, T, sv, rv, xs, h5, h6⟩ := h
  exact (tp_fuse h5.tp hd hn).mono fun e w' ⟨e1, k1⟩ => ⟨e1, JAwq.step h1 h2 h3 h7 h8 h9 h6 (h5.tpd k1) rfl⟩
theorem jaq_sync {w0 w : World} {N j t q : Nat} {J : Js} (h : JAwq w0 w N j t q J) : Calls Tryz.prog 33 #[.pointer (some ⟨j, 0, none⟩)] w fun e w' => e = .returned (.int .i64 (syncP J).1) ∧ JAwq w0 w' w'.heap.size j t q (syncP J).2 := by
  obtain ⟨h1, h2, h3, h4, h7, h8, h9, T, sv, rv, xs, h5, h6⟩ := h
  exact (jsync h5 (ok2_awk h1 h2 h3 (fun k hk => ⟨(h6 k hk).1, (h6 k hk).2.1⟩))).mono fun e w' ⟨e1, hd⟩ => ⟨e1, JAwq.step h1 h2 h3 h7 h8 h9 h6 hd rfl⟩
theorem jdown_any {w : World} {t : Nat} {T : Tp} (hT : TapeAt w t T) : Calls Tryz.prog 17 #[.pointer (some ⟨t, 0, none⟩)] w fun e w' => e = .returned (.bool T.down) ∧ ∃ n, w' = w.drewN n := by
  have hc : w.cell? ⟨t, 4, none⟩ = some (.bool T.down) := cell_of hT.head 4
  clear hT
  cases hd : T.down with
  | true =>
    rw [hd] at hc
    go_enter Tryz.func17, Tryz.ntmps17
    go_wp2
    go_ret
    exact ⟨rfl, 0, rfl⟩
  | false =>
    rw [hd] at hc
    go_enter Tryz.func17, Tryz.ntmps17
    go_wp2
    go_ret
    exact ⟨rfl, 0, rfl⟩
theorem jaq_down {w0 w : World} {N j t q : Nat} {J : Js} (h : JAwq w0 w N j t q J) : Calls Tryz.prog 17 #[.pointer (some ⟨t, 0, none⟩)] w fun e w' => e = .returned (.bool J.p.down) ∧ Below w.heap.size w w' := by
  obtain ⟨T, sv, rv, xs, h5⟩ := h.at
  refine (jdown_any h5.tp.tape).mono fun e w' ⟨e1, n, e2⟩ => ⟨?_, ?_⟩
  · rw [e1]
    have : T.down = J.p.down := h5.tp.eq.down
    rw [this]
  · rw [e2]
    exact below_drewN (Below.refl _ _) n
end Go.Proofs.YtnegnokielmgkaaGreatDoor

namespace Go.Proofs.YtnegnokielmgkaaGreatDoor
open Go.RowKit

set_option maxRecDepth 100000 in
set_option maxHeartbeats 2000000 in
theorem rsame_eq {w : World} {a b : Value} {ls : List (List UInt8)} (ha : PIs w a ls) (hb : PIs w b ls) : Calls Tryz.prog 37 #[a, b] w fun e w' => e = .returned (.bool true) ∧ Below w.heap.size w w' := by
  have HA := Lib.hid ha
  have HB := Lib.hid hb
  obtain ⟨A, ca, rfl, a1, a2, _⟩ := ha
  obtain ⟨B, cb, rfl, b1, b2, _⟩ := hb
  unfold maxLen at a2 b2
  go_enter Tryz.func37, Tryz.ntmps37
  go_wp2_with fail
  go_loopw [13] (fun i wr => ∃ k : Nat, k ≤ ls.length ∧ i = .int .i64 k ∧ Below w.heap.size w wr) (fun i _ => ls.length - (intOf i).toNat)
  case atStart => exact ⟨0, by omega, rfl, Below.refl _ _⟩
  case round =>
    obtain ⟨k, hk, rfl, hbl⟩ := hrel
    have HBL := Lib.hid hbl
    by_cases hlt : k < ls.length
    · have hl : ls[k]? = some ls[k] := List.getElem?_eq_getElem hlt
      obtain ⟨A1, c1, e1, _, _, ha3⟩ := HA.out.below hbl
      obtain ⟨B1, d1, e2, _, _, hb3⟩ := HB.out.below hbl
      injection e1 with e1 _ e3
      injection e2 with e2 _ e4
      subst e1 e2 e3 e4
      obtain ⟨a, x, rfl, _, hx, hxb⟩ := ha3 k _ hl
      obtain ⟨b, y, rfl, _, hy, hyb⟩ := hb3 k _ hl
      generalize ls[k] = l at *
      have cv1 := bis_string (hxb.below (below_drew (Below.refl _ wr)))
      have cv2 := bis_string (hyb.below (below_drew (Below.refl _ wr)))
      obtain ⟨X, cx, rfl, _⟩ := hxb
      obtain ⟨Y, cy, rfl, _⟩ := hyb
      have HLT := Lib.hid hlt
      have l1 : (k : Int) < (ls.length : Int) := by omega
      clear ha3 hb3 hl hbl
      go_wp2_with fail
      go_region_held (fun W => W.cell? (a.add k) = some (.slice X l.length cx) ∧ W.cell? (b.add k) = some (.slice Y l.length cy) ∧ (convert 32 9 (.slice X l.length cx)).run Tryz.prog W = .ok (.string ⟨l.toArray⟩) W ∧ (convert 32 9 (.slice Y l.length cy)).run Tryz.prog W = .ok (.string ⟨l.toArray⟩) W) (first | exact ⟨hx, hy, cv1, cv2⟩ | exact ⟨by go_keep, by go_keep, cv1, cv2⟩) (fail)
      go_wp2_with fail
      go_roundw
      case rel => exact ⟨k + 1, HLT.out, by go_num, by first | exact HBL.out | exact below_drew HBL.out⟩
      case measure => have := HLT.out; simp [intOf]; omega
    · obtain rfl : k = ls.length := by omega
      go_wp2_with fail
      go_ret
      exact ⟨rfl, HBL.out⟩
end Go.Proofs.YtnegnokielmgkaaGreatDoor
