/- The reader of package octet, where what is read is there: Num, Yes, count, Str, Strs, End. -/
import Derived.Test.YtakdhhapckcnaaaDoorOctX
set_option linter.unusedSimpArgs false
set_option linter.unusedVariables false
set_option linter.unnecessarySimpa false
namespace Go.Proofs.YtakdhhapckcnaaaDoor
open Go.RowKit

def numV (n : Nat) : Int := if n % 2 = 1 then -1 - ((n / 2 : Nat) : Int) else ((n / 2 : Nat) : Int)
theorem numV_numN (m : Int) : numV (numN m) = m := by
  unfold numV numN
  by_cases h : m < 0
  · rw [if_pos h, if_pos (by omega)]; omega
  · rw [if_neg h, if_neg (by omega)]; omega
set_option maxRecDepth 100000 in
set_option maxHeartbeats 2000000 in
theorem rnum_ok {w : World} {g : Nat} {A : Option Addr} {cap : Nat} {bs : List UInt8} {pos n sz : Nat} (h : Rd w g A cap bs pos .nilIface []) (hp : natP (bs.drop pos) = some (n, sz)) (hn : n ≤ 18446744073709551615) :
    Calls Tryd.prog 48 #[.pointer (some ⟨g, 0, none⟩)] w fun e w' => e = .returned (.int .i64 (numV n)) ∧ Rd w' g A cap bs (pos + sz) .nilIface [] ∧ Only g w w' := by
  have HN := Lib.hid (rnat_ok h hp)
  clear h hp
  have q0 : (0 : Int) ≤ (n : Int) := by omega
  have q1 : (n : Int) ≤ 18446744073709551615 := by omega
  by_cases h2 : n % 2 = 1
  · have e : numV n = -1 - (n : Int) / 2 := by unfold numV; rw [if_pos h2]; omega
    rw [e]
    have h2' : (n : Int) % 2 = 1 := by omega
    have q2 : (n : Int) / 2 ≤ 9223372036854775807 := by omega
    have q3 : (0 : Int) ≤ (n : Int) / 2 := by omega
    go_enter Tryd.func48, Tryd.ntmps48
    go_wp2_with fail
    refine (HN.out).mono ?_
    rintro e w1 ⟨rfl, hR, hO⟩
    have HR := Lib.hid hR
    have HO := Lib.hid hO
    clear hR hO
    go_wp2
    go_ret
    exact ⟨rfl, HR.out, HO.out⟩
  · have e : numV n = (n : Int) / 2 := by unfold numV; rw [if_neg h2]; omega
    rw [e]
    have h2' : ¬ (n : Int) % 2 = 1 := by omega
    have q2 : (n : Int) / 2 ≤ 9223372036854775807 := by omega
    have q3 : (0 : Int) ≤ (n : Int) / 2 := by omega
    go_enter Tryd.func48, Tryd.ntmps48
    go_wp2_with fail
    refine (HN.out).mono ?_
    rintro e w1 ⟨rfl, hR, hO⟩
    have HR := Lib.hid hR
    have HO := Lib.hid hO
    clear hR hO
    go_wp2
    go_ret
    exact ⟨rfl, HR.out, HO.out⟩
set_option maxRecDepth 100000 in
set_option maxHeartbeats 2000000 in
theorem count_ok {w : World} {g : Nat} {A : Option Addr} {cap : Nat} {bs : List UInt8} {pos n sz most : Nat} (h : Rd w g A cap bs pos .nilIface []) (hp : natP (bs.drop pos) = some (n, sz)) (hmost : n ≤ most) (hm64 : most ≤ 1073741824) :
    Calls Tryd.prog 74 #[.pointer (some ⟨g, 0, none⟩), .int .i64 (most : Int)] w fun e w' => e = .returned (.int .i64 (n : Int)) ∧ Rd w' g A cap bs (pos + sz) .nilIface [] ∧ Only g w w' := by
  have HG := Lib.hid (good_yes h)
  have HN := Lib.hid (rnat_ok h hp)
  have c1 := cell_of_row w g 1 _ _ _ h.blk
  simp at c1
  have q1 : (n : Int) ≤ (most : Int) := by omega
  have q2 : (0 : Int) ≤ (most : Int) := by omega
  have q3 : (most : Int) ≤ 1073741824 := by omega
  have q4 : (0 : Int) ≤ (n : Int) := by omega
  clear h hp
  go_enter Tryd.func74, Tryd.ntmps74
  go_wp2_with fail
  refine (HG.out).mono ?_
  rintro e w' ⟨rfl, rfl⟩
  go_wp2_with fail
  refine (HN.out).mono ?_
  rintro e w1 ⟨rfl, hR, hO⟩
  have HR := Lib.hid hR
  have HO := Lib.hid hO
  clear hR hO c1
  go_wp2
  go_ret
  exact ⟨rfl, HR.out, HO.out⟩
theorem left_q {w : World} {g : Nat} {A : Option Addr} {cap : Nat} {bs : List UInt8} {pos : Nat} {ev : Value} {c : List Lk} (h : Rd w g A cap bs pos ev c) (k : Nat) :
    Calls Tryd.prog 53 #[.pointer (some ⟨g, 0, none⟩)] (w.drewN k) fun e w' => e = .returned (.int .i64 ((bs.length : Int) - (pos : Int))) ∧ ∃ n, w' = w.drewN n :=
  (left_any (h.below (below_drewN (Below.refl _ _) k))).mono fun e w' ⟨he, n, hw⟩ => ⟨he, _, hw.trans (World.drewN_drewN w k n)⟩
set_option maxRecDepth 100000 in
set_option maxHeartbeats 2000000 in
theorem ryes_ok {w : World} {g : Nat} {A : Option Addr} {cap : Nat} {bs : List UInt8} {pos : Nat} {b : Bool} (h : Rd w g A cap bs pos .nilIface []) (hb : bs[pos]? = some (if b then 1 else 0)) :
    Calls Tryd.prog 50 #[.pointer (some ⟨g, 0, none⟩)] w fun e w' => e = .returned (.bool b) ∧ Rd w' g A cap bs (pos + 1) .nilIface [] ∧ Only g w w' := by
  have HG := Lib.hid (good_yes h)
  have HL := Lib.hid (fun k => left_q h k)
  have hlt : pos < bs.length := (List.getElem?_eq_some_iff.1 hb).1
  obtain ⟨gb, rfl, hgg, hgl, hc⟩ := h.byt pos _ hb
  have hm := h.max
  unfold maxLen at hm
  have hle := h.le
  have c0 := cell_of_row w g 0 _ _ _ h.blk
  have c1 := cell_of_row w g 1 _ _ _ h.blk
  have f1 := free0 h.blk 1
  simp at c0 c1
  have H := Lib.hid h
  have q0 : (0 : Int) ≤ (pos : Int) := by omega
  have q1 : (pos : Int) < (bs.length : Int) := by omega
  have q2 : (bs.length : Int) ≤ 9223372036854775807 := by omega
  clear h hb hm
  have q3 : ¬ (bs.length : Int) - (pos : Int) = 0 := by omega
  have q4 : pos + 1 ≤ 9223372036854775807 := by omega
  cases b
  · simp at hc
    go_enter Tryd.func50, Tryd.ntmps50
    go_wp2_with fail
    refine (HG.out).mono ?_
    rintro e w' ⟨rfl, rfl⟩
    go_wp2_with fail
    go_quiet ((go_at_call 53; exact HL.out _))
    go_wp2
    go_quiet (fail)
    go_wp2
    go_ret
    have hmv := fun k => H.out.move k (pos + 1) (by omega)
    have e : ((pos + 1 : Nat) : Int) = (pos : Int) + 1 := by omega
    simp only [e] at hmv
    exact ⟨rfl, (hmv _).1.below (below_drewN (Below.refl _ _) _), (hmv _).2.trans (Only.of_below (below_drewN (Below.refl _ _) _))⟩
  · simp at hc
    go_enter Tryd.func50, Tryd.ntmps50
    go_wp2_with fail
    refine (HG.out).mono ?_
    rintro e w' ⟨rfl, rfl⟩
    go_wp2_with fail
    go_quiet ((go_at_call 53; exact HL.out _))
    go_wp2
    go_quiet (fail)
    go_wp2
    go_ret
    have hmv := fun k => H.out.move k (pos + 1) (by omega)
    have e : ((pos + 1 : Nat) : Int) = (pos : Int) + 1 := by omega
    simp only [e] at hmv
    exact ⟨rfl, (hmv _).1.below (below_drewN (Below.refl _ _) _), (hmv _).2.trans (Only.of_below (below_drewN (Below.refl _ _) _))⟩

set_option maxRecDepth 100000 in
set_option maxHeartbeats 2000000 in
theorem rstr_ok {w : World} {g : Nat} {A : Option Addr} {cap : Nat} {bs : List UInt8} {pos n sz most : Nat} (h : Rd w g A cap bs pos .nilIface []) (hp : natP (bs.drop pos) = some (n, sz)) (hmost : n ≤ most) (hm64 : most ≤ 1073741824) (hend : pos + sz + n ≤ bs.length) :
    Calls Tryd.prog 49 #[.pointer (some ⟨g, 0, none⟩), .int .i64 (most : Int)] w fun e w' => e = .returned (.string ⟨((bs.drop (pos + sz)).take n).toArray⟩) ∧ Rd w' g A cap bs (pos + sz + n) .nilIface [] ∧ Only g w w' := by
  have HG := Lib.hid (good_yes h)
  have hN := count_ok h hp hmost hm64
  have hs := natP_size hp
  rw [List.length_drop] at hs
  have hlt : pos < bs.length := by omega
  obtain ⟨gb, rfl, hgg, hgl, _⟩ := h.byt 0 bs[0] (List.getElem?_eq_getElem (by omega))
  have hm := h.max
  unfold maxLen at hm
  have hle := h.le
  have c1 := cell_of_row w g 1 _ _ _ h.blk
  simp at c1
  clear h hp
  have hps0 : pos ≤ pos + sz := by omega
  generalize hps : pos + sz = p at *
  have HN := Lib.hid hN
  clear hN
  go_enter Tryd.func49, Tryd.ntmps49
  go_wp2_with fail
  refine (HG.out).mono ?_
  rintro e w' ⟨rfl, rfl⟩
  go_wp2_with fail
  refine (HN.out).mono ?_
  rintro e w1 ⟨rfl, hR, hO⟩
  have HR := Lib.hid hR
  have HO := Lib.hid hO
  have HG2 := Lib.hid (good_yes hR)
  have HL := Lib.hid (left_any hR)
  have d0 := cell_of_row w1 g 0 _ _ _ hR.blk
  have d1 := cell_of_row w1 g 1 _ _ _ hR.blk
  have f1 := free0 hR.blk 1
  simp at d0 d1
  clear hR hO c1
  have q0 : (0 : Int) ≤ (p : Int) := by omega
  have q1 : (p : Int) + (n : Int) ≤ (bs.length : Int) := by omega
  have q2 : (bs.length : Int) ≤ 9223372036854775807 := by omega
  have q5 : (p : Int) ≤ 9223372036854775807 := by omega
  have q6 : (p : Int) + (n : Int) ≤ 9223372036854775807 := by omega
  have q7 : p ≤ p + n := by omega
  have q10 : ((p : Int) + (n : Int)).toNat = p + n := by omega
  have q11 : (p : Int) + (n : Int) ≤ (cap : Int) := by omega
  have q12 : p + n - p = n := by omega
  have hw : IntKind.i64.wrap (p : Int) = (p : Int) := Go.IntWalk.i64_in _ (by omega)
  have q8 : p + n ≤ cap := by omega
  have q9 : p + n ≤ bs.length := by omega
  clear hm hps hs
  have q3 : (0 : Int) ≤ (n : Int) := by omega
  have q4 : (n : Int) ≤ (bs.length : Int) - (p : Int) := by omega
  go_wp2_with fail
  refine (HG2.out).mono ?_
  rintro e w' ⟨rfl, rfl⟩
  go_wp2_with fail
  refine (HL.out).mono ?_
  rintro e w2 ⟨rfl, k2, rfl⟩
  go_wp2_with fail
  have hcv : Hid (∀ (a : Addr) (c m : Nat), (n ≠ 0 → a = ⟨gb, p, none⟩) → (convert 54 9 (.slice (some a) n c)).run Tryd.prog (((w1.drewN k2).setCell ⟨g, 1, none⟩ (.int .i64 ((p : Int) + (n : Int)))).drewN m) = .ok (.string ⟨((bs.drop p).take n).toArray⟩) (((w1.drewN k2).setCell ⟨g, 1, none⟩ (.int .i64 ((p : Int) + (n : Int)))).drewN m)) := by
    intro a c m ha
    have hln : ((bs.drop p).take n).length = n := by rw [List.length_take, List.length_drop]; omega
    have := run_convert_bytes_back (P := Tryd.prog) (((w1.drewN k2).setCell ⟨g, 1, none⟩ (.int .i64 ((p : Int) + (n : Int)))).drewN m) 54 9 5 a c ((bs.drop p).take n) Tryd.underlying54 Tryd.underlying5 Tryd.underlying9 (fun j hj => by
      rw [hln] at hj
      obtain rfl := ha (by omega)
      have hb : bs[p + j]? = some bs[p + j] := List.getElem?_eq_getElem (by omega)
      obtain ⟨gb', e, h1, h2, h3⟩ := HR.out.byt (p + j) _ hb
      cases e
      rw [addo]
      have hmv := (HR.out.move k2 (p + n) q9).2
      have e2 : ((p + n : Nat) : Int) = (p : Int) + (n : Int) := by omega
      rw [e2] at hmv
      have := (World.cell?_of_block (a := ⟨gb, p + j, none⟩) (hmv.block gb h2 h1)).trans h3
      have e3 : ((bs.drop p).take n)[j]'(by rw [hln]; exact hj) = bs[p + j] := by simp
      rw [e3]
      exact this)
    rw [hln] at this
    exact this
  have hmv := HR.out.move k2 (p + n) q9
  have e2 : ((p + n : Nat) : Int) = (p : Int) + (n : Int) := by omega
  rw [e2] at hmv
  have HMV := Lib.hid hmv
  clear hmv e2
  by_cases hcp : cap = p
  · have hn0 : n = 0 := by omega
    have hcv' := fun m => hcv.out ⟨gb, 0, none⟩ 0 m (fun h => absurd hn0 h)
    clear hn0
    subst hcp
    go_quiet (fail)
    go_wp2
    go_ret
    exact ⟨rfl, HMV.out.1.below (below_drewN (Below.refl _ _) _), (HO.out.trans HMV.out.2).trans (Only.of_below (below_drewN (Below.refl _ _) _))⟩
  · have hcv' := fun m => hcv.out ⟨gb, p, none⟩ (cap - p) m (fun _ => rfl)
    go_quiet (fail)
    go_wp2
    go_ret
    exact ⟨rfl, HMV.out.1.below (below_drewN (Below.refl _ _) _), (HO.out.trans HMV.out.2).trans (Only.of_below (below_drewN (Below.refl _ _) _))⟩
end Go.Proofs.YtakdhhapckcnaaaDoor
