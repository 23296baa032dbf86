/- The reader of package octet: Num, Str, End, where what is read is there. (Of stage 1's OctC, OctD.) -/
import Derived.Test.YtfaaeacgmlklhaaDoorZOmpB
set_option linter.unusedSimpArgs false
set_option linter.unusedVariables false
set_option linter.unnecessarySimpa false
namespace Go.Proofs.YtfaaeacgmlklhaaDoor
open Go.RowKit Go.Shelf Go.Lib


def numV (n : Nat) : Int := if n % 2 = 1 then -1 - ((n / 2 : Nat) : Int) else ((n / 2 : Nat) : Int)
theorem numV_numN (m : Int) : numV (numN m) = m := by
  unfold numV numN
  by_cases h : m < 0
  · rw [if_pos h, if_pos (by omega)]; omega
  · rw [if_neg h, if_neg (by omega)]; omega
set_option maxRecDepth 100000 in
set_option maxHeartbeats 2000000 in
theorem rnum_ok {w : World} {g : Nat} {A : Option Addr} {cap : Nat} {bs : List UInt8} {pos n sz : Nat} (h : Rd w g A cap bs pos .nilIface []) (hp : natP (bs.drop pos) = some (n, sz)) (hn : n ≤ 18446744073709551615) :
    Calls Tryd.prog 57 #[.pointer (some ⟨g, 0, none⟩)] w fun e w' => e = .returned (.int .i64 (numV n)) ∧ Rd w' g A cap bs (pos + sz) .nilIface [] ∧ Only g w w' := by
  have HN := Lib.hid (rnat_ok h hp)
  clear h hp
  have q0 : (0 : Int) ≤ (n : Int) := by omega
  have q1 : (n : Int) ≤ 18446744073709551615 := by omega
  by_cases h2 : n % 2 = 1
  · have e : numV n = -1 - (n : Int) / 2 := by unfold numV; rw [if_pos h2]; omega
    rw [e]
    have h2' : (n : Int) % 2 = 1 := by omega
    have q2 : (n : Int) / 2 ≤ 9223372036854775807 := by omega
    have q3 : (0 : Int) ≤ (n : Int) / 2 := by omega
    go_enter Tryd.func57, Tryd.ntmps57
    go_wp2_with fail
    refine (HN.out).mono ?_
    rintro e w1 ⟨rfl, hR, hO⟩
    have HR := Lib.hid hR
    have HO := Lib.hid hO
    clear hR hO
    go_wp2
    go_ret
    exact ⟨rfl, HR.out, HO.out⟩
  · have e : numV n = (n : Int) / 2 := by unfold numV; rw [if_neg h2]; omega
    rw [e]
    have h2' : ¬ (n : Int) % 2 = 1 := by omega
    have q2 : (n : Int) / 2 ≤ 9223372036854775807 := by omega
    have q3 : (0 : Int) ≤ (n : Int) / 2 := by omega
    go_enter Tryd.func57, Tryd.ntmps57
    go_wp2_with fail
    refine (HN.out).mono ?_
    rintro e w1 ⟨rfl, hR, hO⟩
    have HR := Lib.hid hR
    have HO := Lib.hid hO
    clear hR hO
    go_wp2
    go_ret
    exact ⟨rfl, HR.out, HO.out⟩
set_option maxRecDepth 100000 in
set_option maxHeartbeats 2000000 in
theorem count_ok {w : World} {g : Nat} {A : Option Addr} {cap : Nat} {bs : List UInt8} {pos n sz most : Nat} (h : Rd w g A cap bs pos .nilIface []) (hp : natP (bs.drop pos) = some (n, sz)) (hmost : n ≤ most) (hm64 : most ≤ 1073741824) :
    Calls Tryd.prog 45 #[.pointer (some ⟨g, 0, none⟩), .int .i64 (most : Int)] w fun e w' => e = .returned (.int .i64 (n : Int)) ∧ Rd w' g A cap bs (pos + sz) .nilIface [] ∧ Only g w w' := by
  have HG := Lib.hid (good_yes h)
  have HN := Lib.hid (rnat_ok h hp)
  have c1 := cell_of_row w g 1 _ _ _ h.blk
  simp at c1
  have q1 : (n : Int) ≤ (most : Int) := by omega
  have q2 : (0 : Int) ≤ (most : Int) := by omega
  have q3 : (most : Int) ≤ 1073741824 := by omega
  have q4 : (0 : Int) ≤ (n : Int) := by omega
  clear h hp
  go_enter Tryd.func45, Tryd.ntmps45
  go_wp2_with fail
  refine (HG.out).mono ?_
  rintro e w' ⟨rfl, rfl⟩
  go_wp2_with fail
  refine (HN.out).mono ?_
  rintro e w1 ⟨rfl, hR, hO⟩
  have HR := Lib.hid hR
  have HO := Lib.hid hO
  clear hR hO c1
  go_wp2
  go_ret
  exact ⟨rfl, HR.out, HO.out⟩
theorem left_q {w : World} {g : Nat} {A : Option Addr} {cap : Nat} {bs : List UInt8} {pos : Nat} {ev : Value} {c : List Lk} (h : Rd w g A cap bs pos ev c) (k : Nat) :
    Calls Tryd.prog 46 #[.pointer (some ⟨g, 0, none⟩)] (w.drewN k) fun e w' => e = .returned (.int .i64 ((bs.length : Int) - (pos : Int))) ∧ ∃ n, w' = w.drewN n :=
  (left_any (h.below (below_drewN (Below.refl _ _) k))).mono fun e w' ⟨he, n, hw⟩ => ⟨he, _, hw.trans (World.drewN_drewN w k n)⟩
set_option maxRecDepth 100000 in
set_option maxHeartbeats 2000000 in
theorem rstr_ok {w : World} {g : Nat} {A : Option Addr} {cap : Nat} {bs : List UInt8} {pos n sz most : Nat} (h : Rd w g A cap bs pos .nilIface []) (hp : natP (bs.drop pos) = some (n, sz)) (hmost : n ≤ most) (hm64 : most ≤ 1073741824) (hend : pos + sz + n ≤ bs.length) :
    Calls Tryd.prog 23 #[.pointer (some ⟨g, 0, none⟩), .int .i64 (most : Int)] w fun e w' => e = .returned (.string ⟨((bs.drop (pos + sz)).take n).toArray⟩) ∧ Rd w' g A cap bs (pos + sz + n) .nilIface [] ∧ Only g w w' := by
  have HG := Lib.hid (good_yes h)
  have hN := count_ok h hp hmost hm64
  have hs := natP_size hp
  rw [List.length_drop] at hs
  have hlt : pos < bs.length := by omega
  obtain ⟨gb, rfl, hgg, hgl, _⟩ := h.byt 0 bs[0] (List.getElem?_eq_getElem (by omega))
  have hm := h.max
  unfold maxLen at hm
  have hle := h.le
  have c1 := cell_of_row w g 1 _ _ _ h.blk
  simp at c1
  clear h hp
  have hps0 : pos ≤ pos + sz := by omega
  generalize hps : pos + sz = p at *
  have HN := Lib.hid hN
  clear hN
  go_enter Tryd.func23, Tryd.ntmps23
  go_wp2_with fail
  refine (HG.out).mono ?_
  rintro e w' ⟨rfl, rfl⟩
  go_wp2_with fail
  refine (HN.out).mono ?_
  rintro e w1 ⟨rfl, hR, hO⟩
  have HR := Lib.hid hR
  have HO := Lib.hid hO
  have HG2 := Lib.hid (good_yes hR)
  have HL := Lib.hid (left_any hR)
  have d0 := cell_of_row w1 g 0 _ _ _ hR.blk
  have d1 := cell_of_row w1 g 1 _ _ _ hR.blk
  have f1 := free0 hR.blk 1
  simp at d0 d1
  clear hR hO c1
  have q0 : (0 : Int) ≤ (p : Int) := by omega
  have q1 : (p : Int) + (n : Int) ≤ (bs.length : Int) := by omega
  have q2 : (bs.length : Int) ≤ 9223372036854775807 := by omega
  have q5 : (p : Int) ≤ 9223372036854775807 := by omega
  have q6 : (p : Int) + (n : Int) ≤ 9223372036854775807 := by omega
  have q7 : p ≤ p + n := by omega
  have q10 : ((p : Int) + (n : Int)).toNat = p + n := by omega
  have q11 : (p : Int) + (n : Int) ≤ (cap : Int) := by omega
  have q12 : p + n - p = n := by omega
  have hw : IntKind.i64.wrap (p : Int) = (p : Int) := Go.IntWalk.i64_in _ (by omega)
  have q8 : p + n ≤ cap := by omega
  have q9 : p + n ≤ bs.length := by omega
  clear hm hps hs
  have q3 : (0 : Int) ≤ (n : Int) := by omega
  have q4 : (n : Int) ≤ (bs.length : Int) - (p : Int) := by omega
  go_wp2_with fail
  refine (HG2.out).mono ?_
  rintro e w' ⟨rfl, rfl⟩
  go_wp2_with fail
  refine (HL.out).mono ?_
  rintro e w2 ⟨rfl, k2, rfl⟩
  go_wp2_with fail
  have hcv : Hid (∀ (a : Addr) (c m : Nat), (n ≠ 0 → a = ⟨gb, p, none⟩) → (convert 46 9 (.slice (some a) n c)).run Tryd.prog (((w1.drewN k2).setCell ⟨g, 1, none⟩ (.int .i64 ((p : Int) + (n : Int)))).drewN m) = .ok (.string ⟨((bs.drop p).take n).toArray⟩) (((w1.drewN k2).setCell ⟨g, 1, none⟩ (.int .i64 ((p : Int) + (n : Int)))).drewN m)) := by
    intro a c m ha
    have hln : ((bs.drop p).take n).length = n := by rw [List.length_take, List.length_drop]; omega
    have := run_convert_bytes_back (P := Tryd.prog) (((w1.drewN k2).setCell ⟨g, 1, none⟩ (.int .i64 ((p : Int) + (n : Int)))).drewN m) 46 9 5 a c ((bs.drop p).take n) Tryd.underlying46 Tryd.underlying5 Tryd.underlying9 (fun j hj => by
      rw [hln] at hj
      obtain rfl := ha (by omega)
      have hb : bs[p + j]? = some bs[p + j] := List.getElem?_eq_getElem (by omega)
      obtain ⟨gb', e, h1, h2, h3⟩ := HR.out.byt (p + j) _ hb
      cases e
      rw [addo]
      have hmv := (HR.out.move k2 (p + n) q9).2
      have e2 : ((p + n : Nat) : Int) = (p : Int) + (n : Int) := by omega
      rw [e2] at hmv
      have := (World.cell?_of_block (a := ⟨gb, p + j, none⟩) (hmv.block gb h2 h1)).trans h3
      have e3 : ((bs.drop p).take n)[j]'(by rw [hln]; exact hj) = bs[p + j] := by simp
      rw [e3]
      exact this)
    rw [hln] at this
    exact this
  have hmv := HR.out.move k2 (p + n) q9
  have e2 : ((p + n : Nat) : Int) = (p : Int) + (n : Int) := by omega
  rw [e2] at hmv
  have HMV := Lib.hid hmv
  clear hmv e2
  by_cases hcp : cap = p
  · have hn0 : n = 0 := by omega
    have hcv' := fun m => hcv.out ⟨gb, 0, none⟩ 0 m (fun h => absurd hn0 h)
    clear hn0
    subst hcp
    go_quiet (fail)
    go_wp2
    go_ret
    exact ⟨rfl, HMV.out.1.below (below_drewN (Below.refl _ _) _), (HO.out.trans HMV.out.2).trans (Only.of_below (below_drewN (Below.refl _ _) _))⟩
  · have hcv' := fun m => hcv.out ⟨gb, p, none⟩ (cap - p) m (fun _ => rfl)
    go_quiet (fail)
    go_wp2
    go_ret
    exact ⟨rfl, HMV.out.1.below (below_drewN (Below.refl _ _) _), (HO.out.trans HMV.out.2).trans (Only.of_below (below_drewN (Below.refl _ _) _))⟩


def strP (most : Nat) (l : List UInt8) : Option (ByteArray × Nat) :=
  match natP l with
  | none => none
  | some (n, sz) => if most < n then none else if l.length < sz + n then none else some (⟨((l.drop sz).take n).toArray⟩, sz + n)
theorem rstr_P {w : World} {g : Nat} {A : Option Addr} {cap : Nat} {bs : List UInt8} {pos k most : Nat} {s : ByteArray} (h : Rd w g A cap bs pos .nilIface []) (hp : strP most (bs.drop pos) = some (s, k)) (hm64 : most ≤ 1073741824) :
    Calls Tryd.prog 23 #[.pointer (some ⟨g, 0, none⟩), .int .i64 (most : Int)] w fun e w' => e = .returned (.string s) ∧ Rd w' g A cap bs (pos + k) .nilIface [] ∧ Only g w w' := by
  unfold strP at hp
  split at hp
  · cases hp
  · rename_i n sz hn
    split at hp
    · cases hp
    · rename_i h1
      split at hp
      · cases hp
      · rename_i h2
        rw [List.length_drop] at h2
        have hs := natP_size hn
        rw [List.length_drop] at hs
        have e := Option.some.inj hp
        have e1 : (⟨(((bs.drop pos).drop sz).take n).toArray⟩ : ByteArray) = s := congrArg Prod.fst e
        have e2 : sz + n = k := congrArg Prod.snd e
        subst e2
        rw [List.drop_drop] at e1
        subst e1
        have := rstr_ok h hn (by omega) hm64 (by have := h.pos_le; omega)
        rw [show pos + (sz + n) = pos + sz + n from by omega]
        exact this
theorem Rd.keepB {w0 w w' : World} {g : Nat} {A : Option Addr} {cap : Nat} {bs : List UInt8} {p0 pos : Nat} (h0 : Rd w0 g A cap bs p0 .nilIface []) (h : Rd w g A cap bs pos .nilIface []) (hb : Below w0.heap.size w w') : Rd w' g A cap bs pos .nilIface [] :=
  ⟨(hb.block g (ErrIs.lt h0.blk)).trans h.blk, h.err, h.le, h.max, h.pos_le, fun i b hi => by
    obtain ⟨gb, h1, h2, h3, h4⟩ := h.byt i b hi
    obtain ⟨gb', e1, _, e3, _⟩ := h0.byt i b hi
    obtain rfl : gb = gb' := by rw [h1] at e1; cases e1; rfl
    exact ⟨gb, h1, h2, Nat.lt_of_lt_of_le h3 hb.size, (hb.cell (p := ⟨gb, i, none⟩) e3).trans h4⟩⟩
theorem Only.below_after {B g : Nat} {a b c : World} (h : Only g a b) (hb : Below B b c) (hB : a.heap.size ≤ B) : Only g a c :=
  ⟨hb.os.trans h.os, hb.tape.trans h.tape, hb.output.trans h.output, Nat.le_trans h.size hb.size, fun i hi hne => (hb.block i (Nat.lt_of_lt_of_le hi hB)).trans (h.block i hi hne)⟩
set_option maxRecDepth 100000 in
set_option maxHeartbeats 1000000 in
theorem rend_ok {w : World} {g : Nat} {A : Option Addr} {cap : Nat} {bs : List UInt8} (hG : Glob w) (h : Rd w g A cap bs bs.length .nilIface []) :
    Calls Tryd.prog 24 #[.pointer (some ⟨g, 0, none⟩)] w fun e w' => e = .returned (.int .i64 0) ∧ Below w.heap.size w w' := by
  have HG := Lib.hid (good_yes h)
  have HL := Lib.hid (left_any h)
  have HE := Lib.hid (fun k => rerr_any (hG.below (below_drewN (Below.refl _ _) k)) (h.below (below_drewN (Below.refl _ _) k)) (fun e he => by simp at he) (by decide))
  clear h hG
  go_enter Tryd.func24, Tryd.ntmps24
  go_wp2_with fail
  refine (HG.out).mono ?_
  rintro e w' ⟨rfl, rfl⟩
  go_wp2_with fail
  refine (HL.out).mono ?_
  rintro e w2 ⟨rfl, k2, rfl⟩
  go_wp2_with fail
  refine (HE.out k2).mono ?_
  rintro e w3 ⟨rfl, hb⟩
  rw [show codeOf [] = 0 from rfl]
  have HB := Lib.hid ((below_drewN (Below.refl w.heap.size w) k2).trans hb)
  clear hb
  go_wp2
  go_ret
  exact ⟨rfl, HB.out⟩
end Go.Proofs.YtfaaeacgmlklhaaDoor
