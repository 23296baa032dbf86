/- The reader of package octet, where what is read is not there: Nat, Str. (Of stage 1's OctG, OctH, OctI.) Numbers' bytes, in plain words. Numbers and texts as bytes, and back. (Of stage 1's OctD, OctJ, OctX.) The reader of package octet: Num, where it is not there; End; Of of any bytes. (Of stage 1's OctK, OctP.) The reader of package octet told by one state: where it stands, or that something was wrong. -/
import Derived.Test.YtmbonngjkgcijaaGreatDoorZOmwB
import Derived.Lib.ItoaNum
set_option linter.unusedSimpArgs false
set_option linter.unusedVariables false
set_option linter.unnecessarySimpa false
namespace Go.Proofs.YtmbonngjkgcijaaGreatDoor
open Go.RowKit Go.Shelf Go.Lib


set_option maxRecDepth 100000 in
set_option maxHeartbeats 1000000 in
theorem nat_empty {w : World} {a : Option Addr} {cap : Nat} : Calls Tryz.prog 150 #[.slice a 0 cap] w fun e w' => e = .returned (.tuple #[.int .u64 0, .int .i64 0, .bool false]) ∧ w' = w := by
  go_enter Tryz.func150, Tryz.ntmps150
  go_wp2
  go_ret3
  exact ⟨rfl, rfl⟩
set_option maxRecDepth 100000 in
set_option maxHeartbeats 1000000 in
theorem nat_big {w : World} {gb o cap m : Nat} {k : Int} (hk : 8 < k) (hc : m + 1 ≤ cap) (hcell : w.cell? ⟨gb, o, none⟩ = some (.int .u8 k)) : Calls Tryz.prog 150 #[.slice (some ⟨gb, o, none⟩) (m + 1) cap] w fun e w' => e = .returned (.tuple #[.int .u64 0, .int .i64 0, .bool false]) ∧ w' = w := by
  go_enter Tryz.func150, Tryz.ntmps150
  go_wp2
  go_ret3
  exact ⟨rfl, rfl⟩
set_option maxRecDepth 100000 in
set_option maxHeartbeats 1000000 in
theorem nat_short {w : World} {gb o cap m k : Nat} (hk : k ≤ 8) (hmk : m < k) (hc : m + 1 ≤ cap) (hcell : w.cell? ⟨gb, o, none⟩ = some (.int .u8 (k : Int))) : Calls Tryz.prog 150 #[.slice (some ⟨gb, o, none⟩) (m + 1) cap] w fun e w' => e = .returned (.tuple #[.int .u64 0, .int .i64 0, .bool false]) ∧ w' = w := by
  have p2 : (((m : Int) + 1) == 0) = false := beq_eq_false_iff_ne.2 (by omega)
  have p3 : decide ((m : Int) + 1 < 1 + (k : Int)) = true := by simp; omega
  have p7 : decide (8 < (k : Int)) = false := by simp; omega
  have p9 : (k : Int) ≤ 8 := by omega
  have p10 : (0 : Int) ≤ (k : Int) := by omega
  go_enter Tryz.func150, Tryz.ntmps150
  go_wp2
  go_ret3
  exact ⟨rfl, rfl⟩
set_option maxRecDepth 100000 in
set_option maxHeartbeats 1000000 in
theorem nat_lead {w : World} {gb o cap m k : Nat} (hk : k ≤ 8) (hk1 : 1 ≤ k) (hmk : k ≤ m) (hc : m + 1 ≤ cap) (hcell : w.cell? ⟨gb, o, none⟩ = some (.int .u8 (k : Int))) (hc1 : w.cell? ⟨gb, o + 1, none⟩ = some (.int .u8 0)) : Calls Tryz.prog 150 #[.slice (some ⟨gb, o, none⟩) (m + 1) cap] w fun e w' => e = .returned (.tuple #[.int .u64 0, .int .i64 0, .bool false]) ∧ w' = w := by
  have p2 : (((m : Int) + 1) == 0) = false := beq_eq_false_iff_ne.2 (by omega)
  have p3 : decide ((m : Int) + 1 < 1 + (k : Int)) = false := by simp; omega
  have p7 : decide (8 < (k : Int)) = false := by simp; omega
  have p8 : decide (1 < 1 + (k : Int)) = true := by simp; omega
  have p9 : (k : Int) ≤ 8 := by omega
  have p10 : (1 : Int) ≤ (k : Int) := by omega
  have p11 : (1 : Int) < (m : Int) + 1 := by omega
  go_enter Tryz.func150, Tryz.ntmps150
  go_wp2
  go_ret3
  exact ⟨rfl, rfl⟩
theorem nat_none {w : World} {a : Option Addr} {N cap : Nat} {l : List UInt8} (hl : l.length = N) (hc : N ≤ cap) (hcell : l ≠ [] → ∃ gb o, a = some ⟨gb, o, none⟩ ∧ ∀ i b, l[i]? = some b → w.cell? ⟨gb, o + i, none⟩ = some (.int .u8 (b.toNat : Int))) (hp : natP l = none) :
    Calls Tryz.prog 150 #[.slice a N cap] w fun e w' => e = .returned (.tuple #[.int .u64 0, .int .i64 0, .bool false]) ∧ w' = w := by
  subst hl
  cases l with
  | nil => exact nat_empty
  | cons k r =>
    obtain ⟨gb, o, rfl, hcl⟩ := hcell (by simp)
    have h0 := hcl 0 k rfl
    rw [Nat.add_zero] at h0
    rw [natP] at hp
    split at hp
    · exact nat_big (m := r.length) (k := (k.toNat : Int)) (by omega) hc h0
    · split at hp
      · exact nat_short (m := r.length) (k := k.toNat) (by omega) (by omega) hc h0
      · split at hp
        · rename_i h8 hr hz
          have hx : r[0]? = some 0 := hz.2
          exact nat_lead (m := r.length) (k := k.toNat) (by omega) (by omega) (by omega) hc h0 (by simpa using hcl 1 0 (by simpa using hx))
        · cases hp


set_option maxRecDepth 100000 in
set_option maxHeartbeats 2000000 in
theorem rnat_bad1 {w : World} {g : Nat} {A : Option Addr} {cap : Nat} {bs : List UInt8} {pos : Nat} (h : Rd w g A cap bs pos .nilIface []) (hlt : pos < bs.length) (hp : natP (bs.drop pos) = none) :
    Calls Tryz.prog 103 #[.pointer (some ⟨g, 0, none⟩)] w fun e w' => e = .returned (.int .u64 0) ∧ (∃ t u, Rd w' g A cap bs pos (.iface t u) [.plc pos, .num 6]) ∧ Only g w w' := by
  obtain ⟨gb, rfl, hgg, hgl, _⟩ := h.byt 0 bs[0] (List.getElem?_eq_getElem (by omega))
  have hm := h.max
  unfold maxLen at hm
  have hle := h.le
  have H72 := Lib.hid (fun k : Nat => nat_none (w := w.drewN k) (a := some ⟨gb, pos, none⟩) (N := bs.length - pos) (cap := cap - pos) (l := bs.drop pos) (by rw [List.length_drop]) (by omega) (fun _ => ⟨gb, pos, rfl, fun i b hi => by
    rw [List.getElem?_drop] at hi
    obtain ⟨gb', he, _, _, hc⟩ := h.byt (pos + i) b hi
    cases he; exact hc⟩) hp)
  have HG := Lib.hid (good_yes h)
  have c0 := cell_of_row w g 0 _ _ _ h.blk
  have c1 := cell_of_row w g 1 _ _ _ h.blk
  simp at c0 c1
  have H := Lib.hid h
  have q1 : pos ≤ cap := by omega
  have q2 : pos ≤ bs.length := by omega
  have q3 : ¬ cap = pos := by omega
  clear h hp hm
  go_enter Tryz.func103, Tryz.ntmps103
  go_wp2_with fail
  refine (HG.out).mono ?_
  rintro e w' ⟨rfl, rfl⟩
  go_wp2_with fail
  go_quiet ((go_at_call 150; exact Calls.quiet_of_same (H72.out _)))
  go_wp2_with fail
  refine (wrong_any pos 6 (by decide) H.out.pos_le (H.out.below (below_drewN (Below.refl _ _) _))).mono ?_
  rintro e w2 ⟨rfl, ⟨ev, hR2⟩, hO2⟩
  obtain ⟨t, u, rfl⟩ := hR2.err.form1
  have HR2 := Lib.hid hR2
  have HO2 := Lib.hid ((Only.of_below (below_drewN (Below.refl _ _) _)).trans hO2)
  clear hR2 hO2
  go_wp2
  go_ret
  exact ⟨rfl, ⟨_, _, HR2.out⟩, HO2.out⟩
set_option maxRecDepth 100000 in
set_option maxHeartbeats 2000000 in
theorem rnat_bad0 {w : World} {g : Nat} {A : Option Addr} {cap : Nat} {bs : List UInt8} (h : Rd w g A cap bs bs.length .nilIface []) :
    Calls Tryz.prog 103 #[.pointer (some ⟨g, 0, none⟩)] w fun e w' => e = .returned (.int .u64 0) ∧ (∃ t u, Rd w' g A cap bs bs.length (.iface t u) [.plc bs.length, .num 6]) ∧ Only g w w' := by
  have hle := h.le
  have H72 := Lib.hid (fun (k : Nat) (a : Option Addr) (c : Nat) => nat_empty (w := w.drewN k) (a := a) (cap := c))
  have HG := Lib.hid (good_yes h)
  have c0 := cell_of_row w g 0 _ _ _ h.blk
  have c1 := cell_of_row w g 1 _ _ _ h.blk
  simp at c0 c1
  have H := Lib.hid h
  have hm := h.max
  unfold maxLen at hm
  have q5 : bs.length ≤ 9223372036854775807 := by omega
  clear h hm
  rcases A with _ | a <;> by_cases hcp : cap = bs.length
  · subst hcp
    go_enter Tryz.func103, Tryz.ntmps103
    go_wp2_with fail
    refine (HG.out).mono ?_
    rintro e w' ⟨rfl, rfl⟩
    go_wp2_with fail
    go_quiet ((go_at_call 150; exact Calls.quiet_of_same (H72.out _ _ _)))
    go_wp2_with fail
    refine (wrong_any bs.length 6 (by decide) H.out.pos_le (H.out.below (below_drewN (Below.refl _ _) _))).mono ?_
    rintro e w2 ⟨rfl, ⟨ev, hR2⟩, hO2⟩
    obtain ⟨t, u, rfl⟩ := hR2.err.form1
    have HR2 := Lib.hid hR2
    have HO2 := Lib.hid ((Only.of_below (below_drewN (Below.refl _ _) _)).trans hO2)
    clear hR2 hO2
    go_wp2
    go_ret
    exact ⟨rfl, ⟨_, _, HR2.out⟩, HO2.out⟩
  · skip
    go_enter Tryz.func103, Tryz.ntmps103
    go_wp2_with fail
    refine (HG.out).mono ?_
    rintro e w' ⟨rfl, rfl⟩
    go_wp2_with fail
    go_quiet ((go_at_call 150; exact Calls.quiet_of_same (H72.out _ _ _)))
    go_wp2_with fail
    refine (wrong_any bs.length 6 (by decide) H.out.pos_le (H.out.below (below_drewN (Below.refl _ _) _))).mono ?_
    rintro e w2 ⟨rfl, ⟨ev, hR2⟩, hO2⟩
    obtain ⟨t, u, rfl⟩ := hR2.err.form1
    have HR2 := Lib.hid hR2
    have HO2 := Lib.hid ((Only.of_below (below_drewN (Below.refl _ _) _)).trans hO2)
    clear hR2 hO2
    go_wp2
    go_ret
    exact ⟨rfl, ⟨_, _, HR2.out⟩, HO2.out⟩
  · subst hcp
    go_enter Tryz.func103, Tryz.ntmps103
    go_wp2_with fail
    refine (HG.out).mono ?_
    rintro e w' ⟨rfl, rfl⟩
    go_wp2_with fail
    go_quiet ((go_at_call 150; exact Calls.quiet_of_same (H72.out _ _ _)))
    go_wp2_with fail
    refine (wrong_any bs.length 6 (by decide) H.out.pos_le (H.out.below (below_drewN (Below.refl _ _) _))).mono ?_
    rintro e w2 ⟨rfl, ⟨ev, hR2⟩, hO2⟩
    obtain ⟨t, u, rfl⟩ := hR2.err.form1
    have HR2 := Lib.hid hR2
    have HO2 := Lib.hid ((Only.of_below (below_drewN (Below.refl _ _) _)).trans hO2)
    clear hR2 hO2
    go_wp2
    go_ret
    exact ⟨rfl, ⟨_, _, HR2.out⟩, HO2.out⟩
  · skip
    go_enter Tryz.func103, Tryz.ntmps103
    go_wp2_with fail
    refine (HG.out).mono ?_
    rintro e w' ⟨rfl, rfl⟩
    go_wp2_with fail
    go_quiet ((go_at_call 150; exact Calls.quiet_of_same (H72.out _ _ _)))
    go_wp2_with fail
    refine (wrong_any bs.length 6 (by decide) H.out.pos_le (H.out.below (below_drewN (Below.refl _ _) _))).mono ?_
    rintro e w2 ⟨rfl, ⟨ev, hR2⟩, hO2⟩
    obtain ⟨t, u, rfl⟩ := hR2.err.form1
    have HR2 := Lib.hid hR2
    have HO2 := Lib.hid ((Only.of_below (below_drewN (Below.refl _ _) _)).trans hO2)
    clear hR2 hO2
    go_wp2
    go_ret
    exact ⟨rfl, ⟨_, _, HR2.out⟩, HO2.out⟩
theorem rnat_bad {w : World} {g : Nat} {A : Option Addr} {cap : Nat} {bs : List UInt8} {pos : Nat} (h : Rd w g A cap bs pos .nilIface []) (hp : natP (bs.drop pos) = none) :
    Calls Tryz.prog 103 #[.pointer (some ⟨g, 0, none⟩)] w fun e w' => e = .returned (.int .u64 0) ∧ (∃ t u, Rd w' g A cap bs pos (.iface t u) [.plc pos, .num 6]) ∧ Only g w w' := by
  by_cases hlt : pos < bs.length
  · exact rnat_bad1 h hlt hp
  · obtain rfl : pos = bs.length := by have := h.pos_le; omega
    exact rnat_bad0 h


/-- A reader of which something was wrong. -/
def Bad (w : World) (g : Nat) (A : Option Addr) (cap : Nat) (bs : List UInt8) : Prop :=
  ∃ (p : Nat) (e : Int) (t : TypeId) (u : Value), e ≠ 0 ∧ e < 100 ∧ 0 < e ∧ Rd w g A cap bs p (.iface t u) [.plc p, .num e]
set_option maxRecDepth 100000 in
set_option maxHeartbeats 2000000 in
theorem count_bad {w : World} {g : Nat} {A : Option Addr} {cap : Nat} {bs : List UInt8} {pos most : Nat} (h : Rd w g A cap bs pos .nilIface []) (hp : natP (bs.drop pos) = none) (hm64 : most ≤ 1073741824) :
    Calls Tryz.prog 108 #[.pointer (some ⟨g, 0, none⟩), .int .i64 (most : Int)] w fun e w' => e = .returned (.int .i64 0) ∧ Bad w' g A cap bs ∧ Only g w w' := by
  have HG := Lib.hid (good_yes h)
  have HN := Lib.hid (rnat_bad h hp)
  have c1 := cell_of_row w g 1 _ _ _ h.blk
  simp at c1
  have q2 : (0 : Int) ≤ (most : Int) := by omega
  have q3 : (most : Int) ≤ 1073741824 := by omega
  clear h hp
  go_enter Tryz.func108, Tryz.ntmps108
  go_wp2_with fail
  refine (HG.out).mono ?_
  rintro e w' ⟨rfl, rfl⟩
  go_wp2_with fail
  refine (HN.out).mono ?_
  rintro e w1 ⟨rfl, ⟨t, u, hR⟩, hO⟩
  have HR := Lib.hid hR
  have HO := Lib.hid hO
  clear hR hO c1
  go_wp2
  go_ret
  exact ⟨rfl, ⟨_, _, _, _, by decide, by decide, by decide, HR.out⟩, HO.out⟩
set_option maxRecDepth 100000 in
set_option maxHeartbeats 2000000 in
theorem rstr_none {w : World} {g : Nat} {A : Option Addr} {cap : Nat} {bs : List UInt8} {pos most : Nat} (h : Rd w g A cap bs pos .nilIface []) (hp : natP (bs.drop pos) = none) (hm64 : most ≤ 1073741824) :
    Calls Tryz.prog 61 #[.pointer (some ⟨g, 0, none⟩), .int .i64 (most : Int)] w fun e w' => e = .returned (.string ⟨#[]⟩) ∧ Bad w' g A cap bs ∧ Only g w w' := by
  have HG := Lib.hid (good_yes h)
  have HN := Lib.hid (count_bad h hp hm64)
  have c1 := cell_of_row w g 1 _ _ _ h.blk
  simp at c1
  clear h hp
  go_enter Tryz.func61, Tryz.ntmps61
  go_wp2_with fail
  refine (HG.out).mono ?_
  rintro e w' ⟨rfl, rfl⟩
  go_wp2_with fail
  refine (HN.out).mono ?_
  rintro e w1 ⟨rfl, hB, hO⟩
  have HB := Lib.hid hB
  obtain ⟨p, e, t, u, _, _, _, hR⟩ := hB
  have HO := Lib.hid hO
  have HG2 := Lib.hid (good_no hR)
  clear hR hO c1
  go_wp2_with fail
  refine (HG2.out).mono ?_
  rintro e w' ⟨rfl, rfl⟩
  go_wp2
  go_ret
  exact ⟨rfl, HB.out, HO.out⟩
set_option maxRecDepth 100000 in
set_option maxHeartbeats 2000000 in
theorem rstr_cut {w : World} {g : Nat} {A : Option Addr} {cap : Nat} {bs : List UInt8} {pos n sz most : Nat} (h : Rd w g A cap bs pos .nilIface []) (hp : natP (bs.drop pos) = some (n, sz)) (hmost : n ≤ most) (hm64 : most ≤ 1073741824) (hend : bs.length < pos + sz + n) :
    Calls Tryz.prog 61 #[.pointer (some ⟨g, 0, none⟩), .int .i64 (most : Int)] w fun e w' => e = .returned (.string ⟨#[]⟩) ∧ Bad w' g A cap bs ∧ Only g w w' := by
  have HG := Lib.hid (good_yes h)
  have hN := count_ok h hp hmost hm64
  have c1 := cell_of_row w g 1 _ _ _ h.blk
  simp at c1
  have hpl := h.pos_le
  clear h hp
  generalize hps : pos + sz = p at *
  have HN := Lib.hid hN
  clear hN
  go_enter Tryz.func61, Tryz.ntmps61
  go_wp2_with fail
  refine (HG.out).mono ?_
  rintro e w' ⟨rfl, rfl⟩
  go_wp2_with fail
  refine (HN.out).mono ?_
  rintro e w1 ⟨rfl, hR, hO⟩
  have HR := Lib.hid hR
  have HO := Lib.hid hO
  have HG2 := Lib.hid (good_yes hR)
  have HL := Lib.hid (left_any hR)
  clear hR hO c1 hps
  have q4 : (bs.length : Int) - (p : Int) < (n : Int) := by omega
  go_wp2_with fail
  refine (HG2.out).mono ?_
  rintro e w' ⟨rfl, rfl⟩
  go_wp2_with fail
  refine (HL.out).mono ?_
  rintro e w2 ⟨rfl, k2, rfl⟩
  go_wp2_with fail
  refine (wrong_any pos 6 (by decide) hpl (HR.out.below (below_drewN (Below.refl _ _) k2))).mono ?_
  rintro e w3 ⟨rfl, ⟨ev, hR2⟩, hO2⟩
  obtain ⟨t, u, rfl⟩ := hR2.err.form1
  have HR2 := Lib.hid hR2
  have HO2 := Lib.hid ((Only.of_below (below_drewN (Below.refl _ _) _)).trans hO2)
  clear hR2 hO2
  go_wp2
  go_ret
  exact ⟨rfl, ⟨_, _, _, _, by decide, by decide, by decide, HR2.out⟩, HO.out.trans HO2.out⟩
theorem rstr_bad {w : World} {g : Nat} {A : Option Addr} {cap : Nat} {bs : List UInt8} {pos most : Nat} (h : Rd w g A cap bs pos .nilIface []) (hp : strP most (bs.drop pos) = none) (hm64 : most ≤ 1073741824) :
    Calls Tryz.prog 61 #[.pointer (some ⟨g, 0, none⟩), .int .i64 (most : Int)] w fun e w' => e = .returned (.string ⟨#[]⟩) ∧ Bad w' g A cap bs ∧ Only g w w' := by
  unfold strP at hp
  split at hp
  · rename_i hn
    exact rstr_none h hn hm64
  · rename_i n sz hn
    split at hp
    · rename_i hl
      refine (rstr_long h hn hl hm64).mono ?_
      rintro e w' ⟨rfl, ⟨t, u, hR⟩, hO⟩
      exact ⟨rfl, ⟨_, _, _, _, by decide, by decide, by decide, hR⟩, hO⟩
    · split at hp
      · rename_i hl hc
        rw [List.length_drop] at hc
        exact rstr_cut h hn (by omega) hm64 (by have := h.pos_le; omega)
      · cases hp

end Go.Proofs.YtmbonngjkgcijaaGreatDoor

namespace Go.Proofs.YtmbonngjkgcijaaGreatDoor
open Go.RowKit Go.Shelf Go.Lib

theorem beB_cons (j n : Nat) : beB (j + 1) n = UInt8.ofNat (n / 256 ^ j % 256) :: beB j n := by
  induction j generalizing n with
  | zero => simp [beB]
  | succ j ih =>
    rw [beB, ih, beB, Nat.div_div_eq_div_mul, Nat.pow_succ, Nat.mul_comm 256]
    rfl
theorem sizeB_spec (n : Nat) (hn : n ≤ 18446744073709551615) (j : Nat) : j < sizeB n ↔ n / 256 ^ j ≠ 0 := by
  by_cases h0 : n = 0
  · subst h0
    have : sizeB 0 = 0 := by decide
    rw [this]; simp
  · have hb := Lib.bitLenAux_bounds 64 n (by omega) h0
    have e : 256 ^ j = 2 ^ (8 * j) := by rw [Nat.pow_mul]
    have hd : n / 256 ^ j ≠ 0 ↔ 256 ^ j ≤ n := by
      rw [Ne, Nat.div_eq_zero_iff]
      have : 0 < 256 ^ j := Nat.pow_pos (by omega)
      omega
    rw [hd, e]
    have hs : sizeB n = (Lib.bitLenAux 64 n + 7) / 8 := rfl
    rw [hs]
    constructor
    · intro h
      exact Nat.le_trans (Nat.pow_le_pow_right (by omega) (by omega)) hb.2.1
    · intro h
      have h1 : 2 ^ (8 * j) < 2 ^ Lib.bitLenAux 64 n := Nat.lt_of_le_of_lt h hb.2.2
      have h2 := (Nat.pow_lt_pow_iff_right (by omega : 1 < 2)).1 h1
      omega
end Go.Proofs.YtmbonngjkgcijaaGreatDoor

namespace Go.Proofs.YtmbonngjkgcijaaGreatDoor
open Go.RowKit Go.Shelf Go.Lib

theorem foldB_beB (j n : Nat) : foldB (beB j n) = n % 256 ^ j := by
  induction j generalizing n with
  | zero => simp [beB, foldB, Nat.mod_one]
  | succ j ih =>
    rw [beB, foldB_snoc, ih, Nat.pow_succ, Nat.mul_comm (256 ^ j), Nat.mod_mul]
    simp
    omega
theorem natP_natB (n : Nat) (hn : n ≤ 18446744073709551615) (rest : List UInt8) : natP (natB n ++ rest) = some (n, (natB n).length) := by
  have h8 := sizeB_le n hn
  have hlt : n / 256 ^ sizeB n = 0 := by
    have := mt (sizeB_spec n hn (sizeB n)).2 (by omega)
    exact Classical.byContradiction this
  have hlt2 : n < 256 ^ sizeB n := by
    rcases Nat.div_eq_zero_iff.1 hlt with h | h
    · exact absurd h (Nat.pos_iff_ne_zero.1 (Nat.pow_pos (by omega)))
    · exact h
  have hk : (UInt8.ofNat (sizeB n)).toNat = sizeB n := by simp; omega
  unfold natB
  rw [List.cons_append, natP, hk, if_neg (by omega), if_neg (by rw [List.length_append, beB_length]; omega), if_neg, List.take_left' (beB_length _ _), foldB_beB, Nat.mod_eq_of_lt hlt2]
  · rw [List.length_cons, beB_length]
  · rintro ⟨h0, h1⟩
    obtain ⟨j, hj⟩ : ∃ j, sizeB n = j + 1 := ⟨sizeB n - 1, by omega⟩
    rw [hj] at h1 hlt2
    rw [beB_cons] at h1
    have hne := (sizeB_spec n hn j).1 (by omega)
    have : n / 256 ^ j < 256 := by
      rw [Nat.div_lt_iff_lt_mul (Nat.pow_pos (by omega)), Nat.mul_comm, ← Nat.pow_succ]; exact hlt2
    generalize n / 256 ^ j = x at *
    rw [List.cons_append, List.getElem?_cons_zero] at h1
    have h3 := congrArg UInt8.toNat (Option.some.inj h1)
    rw [show (UInt8.ofNat (x % 256)).toNat = x % 256 from by simp] at h3
    have h4 : x % 256 = 0 := h3
    omega
theorem strP_strB {most : Nat} {s : ByteArray} (hs : s.size ≤ most) (hm : most ≤ 1073741824) (rest : List UInt8) : strP most (strB s ++ rest) = some (s, (strB s).length) := by
  have hl : s.data.toList.length = s.size := by simp
  unfold strP strB
  rw [List.append_assoc, natP_natB _ (by omega)]
  simp only
  rw [if_neg (by omega), if_neg (by simp only [List.length_append]; omega), List.drop_left' rfl, List.take_left' hl]
  simp

theorem beB_foldB (l : List UInt8) : beB l.length (foldB l) = l := by
  rw [← List.reverse_reverse l]
  induction l.reverse with
  | nil => rfl
  | cons x t ih =>
    rw [List.reverse_cons, List.length_append, foldB_snoc]
    have hx := x.toNat_lt
    rw [show t.reverse.length + [x].length = t.reverse.length + 1 from rfl, beB, show (foldB t.reverse * 256 + x.toNat) / 256 = foldB t.reverse from by omega, ih, show (foldB t.reverse * 256 + x.toNat) % 256 = x.toNat from by omega]
    simp
theorem natP_only {l : List UInt8} {n sz : Nat} (h : natP l = some (n, sz)) : n ≤ 18446744073709551615 ∧ l.take sz = natB n ∧ sz = (natB n).length := by
  cases l with
  | nil => simp [natP] at h
  | cons k r =>
    rw [natP] at h
    split at h
    · cases h
    · rename_i h8
      split at h
      · cases h
      · rename_i hr
        split at h
        · cases h
        · rename_i hz
          have h1 : foldB (r.take k.toNat) = n := congrArg Prod.fst (Option.some.inj h)
          have h2 : k.toNat + 1 = sz := congrArg Prod.snd (Option.some.inj h)
          have hl : (r.take k.toNat).length = k.toNat := by rw [List.length_take]; omega
          have hlt := foldB_lt (r.take k.toNat)
          rw [hl, h1] at hlt
          have hbe := beB_foldB (r.take k.toNat)
          rw [hl, h1] at hbe
          have hn : n ≤ 18446744073709551615 := by
            have : 256 ^ k.toNat ≤ 256 ^ 8 := Nat.pow_le_pow_right (by omega) (by omega)
            have e : (256 : Nat) ^ 8 = 18446744073709551616 := by decide
            omega
          have hs : sizeB n = k.toNat := by
            have hle : ¬ k.toNat < sizeB n := fun h => (sizeB_spec n hn _).1 h (Nat.div_eq_of_lt hlt)
            rcases Nat.lt_or_ge (sizeB n) k.toNat with hlow | hge
            · exfalso
              obtain ⟨j, hj⟩ : ∃ j, k.toNat = j + 1 := ⟨k.toNat - 1, by omega⟩
              have hd : n / 256 ^ j = 0 := Classical.byContradiction fun hne => absurd ((sizeB_spec n hn j).2 hne) (by omega)
              rw [hj, beB_cons, hd] at hbe
              refine hz ⟨by omega, ?_⟩
              have := congrArg (fun l : List UInt8 => l[0]?) hbe
              simp only [List.getElem?_cons_zero, List.getElem?_take] at this
              rw [if_pos (by omega)] at this
              exact this.symm
            · omega
          refine ⟨hn, ?_, ?_⟩
          · rw [← h2, List.take_succ_cons, ← hbe]
            unfold natB
            rw [hs]
            simp
          · rw [natB_len, hs]; omega
theorem strP_only {most : Nat} {l : List UInt8} {s : ByteArray} {k : Nat} (h : strP most l = some (s, k)) : s.size ≤ most ∧ k ≤ l.length ∧ l.take k = strB s ∧ k = (strB s).length := by
  unfold strP at h
  split at h
  · cases h
  · rename_i n sz hn
    split at h
    · cases h
    · split at h
      · cases h
      · rename_i h1 h2
        obtain ⟨_, h4, h5⟩ := natP_only hn
        have e1 : (⟨((l.drop sz).take n).toArray⟩ : ByteArray) = s := congrArg Prod.fst (Option.some.inj h)
        have e2 : sz + n = k := congrArg Prod.snd (Option.some.inj h)
        have hsz : s.size = n := by rw [← e1]; show ((l.drop sz).take n).toArray.size = n; simp; omega
        have hd : s.data.toList = (l.drop sz).take n := by rw [← e1]
        refine ⟨by omega, by omega, ?_, ?_⟩
        · unfold strB
          rw [hsz, ← h4, hd, ← e2, List.take_add]
        · unfold strB
          rw [List.length_append, hsz, ← h5]
          have : s.data.toList.length = s.size := by simp
          omega
theorem numN_numV (n : Nat) : numN (numV n) = n := by
  unfold numN numV
  split <;> split <;> omega
end Go.Proofs.YtmbonngjkgcijaaGreatDoor

namespace Go.Proofs.YtmbonngjkgcijaaGreatDoor
open Go.RowKit Go.Shelf Go.Lib


set_option maxRecDepth 100000 in
set_option maxHeartbeats 2000000 in
theorem rnum_bad {w : World} {g : Nat} {A : Option Addr} {cap : Nat} {bs : List UInt8} {pos : Nat} (h : Rd w g A cap bs pos .nilIface []) (hp : natP (bs.drop pos) = none) :
    Calls Tryz.prog 151 #[.pointer (some ⟨g, 0, none⟩)] w fun e w' => e = .returned (.int .i64 0) ∧ Bad w' g A cap bs ∧ Only g w w' := by
  have HN := Lib.hid (rnat_bad h hp)
  clear h hp
  go_enter Tryz.func151, Tryz.ntmps151
  go_wp2_with fail
  refine (HN.out).mono ?_
  rintro e w1 ⟨rfl, ⟨t, u, hR⟩, hO⟩
  have HR := Lib.hid hR
  have HO := Lib.hid hO
  clear hR hO
  go_wp2
  go_ret
  exact ⟨rfl, ⟨_, _, _, _, by decide, by decide, by decide, HR.out⟩, HO.out⟩
theorem Bad.numOk {p : Nat} {e : Int} (h0 : 0 < e) (h1 : e < 100) : NumOk [Lk.plc (p : Int), Lk.num e] := by
  intro x hx
  simp at hx
  omega
set_option maxRecDepth 100000 in
set_option maxHeartbeats 1000000 in
theorem rend_bad {w : World} {g : Nat} {A : Option Addr} {cap : Nat} {bs : List UInt8} (hG : Glob w) (h : Bad w g A cap bs) :
    Calls Tryz.prog 62 #[.pointer (some ⟨g, 0, none⟩)] w fun e w' => (∃ x : Int, e = .returned (.int .i64 x) ∧ x ≠ 0) ∧ Below w.heap.size w w' := by
  obtain ⟨p, e, t, u, he, he1, he0, h⟩ := h
  have HG := Lib.hid (good_no h)
  have HE := Lib.hid (rerr_any hG h (Bad.numOk he0 he1) (by show 2 < 1000; omega))
  clear h hG
  go_enter Tryz.func62, Tryz.ntmps62
  go_wp2_with fail
  refine (HG.out).mono ?_
  rintro e' w' ⟨rfl, rfl⟩
  go_wp2_with fail
  refine (HE.out).mono ?_
  rintro e' w3 ⟨rfl, hb⟩
  rw [show codeOf [Lk.plc (p : Int), Lk.num e] = e from rfl]
  have HB := Lib.hid hb
  clear hb
  go_wp2
  go_ret
  exact ⟨⟨e, rfl, he⟩, HB.out⟩
set_option maxRecDepth 100000 in
set_option maxHeartbeats 1000000 in
theorem rend_left {w : World} {g : Nat} {A : Option Addr} {cap : Nat} {bs : List UInt8} {pos : Nat} (hG : Glob w) (hg : g ≠ 1) (h : Rd w g A cap bs pos .nilIface []) (hlt : pos < bs.length) :
    Calls Tryz.prog 62 #[.pointer (some ⟨g, 0, none⟩)] w fun e w' => (∃ x : Int, e = .returned (.int .i64 x) ∧ x ≠ 0) ∧ Only g w w' := by
  have HG := Lib.hid (good_yes h)
  have HL := Lib.hid (left_any h)
  have H := Lib.hid h
  have HGl := Lib.hid hG
  have c1 := cell_of_row w g 1 _ _ _ h.blk
  simp at c1
  have q : (0 : Int) < (bs.length : Int) - (pos : Int) := by omega
  clear h hG
  go_enter Tryz.func62, Tryz.ntmps62
  go_wp2_with fail
  refine (HG.out).mono ?_
  rintro e w' ⟨rfl, rfl⟩
  go_wp2_with fail
  refine (HL.out).mono ?_
  rintro e w2 ⟨rfl, k2, rfl⟩
  go_wp2_with fail
  refine (wrong_any pos 6 (by decide) (by omega) (H.out.below (below_drewN (Below.refl _ _) k2))).mono ?_
  rintro e w3 ⟨rfl, ⟨ev, hR2⟩, hO2⟩
  have HO2 := Lib.hid ((Only.of_below (below_drewN (Below.refl _ _) _)).trans hO2)
  have HG3 : Glob w3 := (World.cell?_of_block (a := ⟨1, 0, none⟩) (HO2.out.block 1 HGl.out.lt (Ne.symm hg))).trans HGl.out
  have HE := Lib.hid (rerr_any HG3 hR2 (Bad.numOk (by decide) (by decide)) (by show 2 < 1000; omega))
  clear hR2 hO2
  go_wp2_with fail
  refine (HE.out).mono ?_
  rintro e' w4 ⟨rfl, hb⟩
  rw [show codeOf [Lk.plc (pos : Int), Lk.num 6] = 6 from rfl]
  have HB := Lib.hid (HO2.out.below_after hb HO2.out.size)
  clear hb
  go_wp2
  go_ret
  exact ⟨⟨6, rfl, by decide⟩, HB.out⟩


set_option maxRecDepth 100000 in
set_option maxHeartbeats 1000000 in
theorem of_any {w : World} {v : Value} {l : List UInt8} (h : BIs w v l) (hl : l.length ≤ 1073741824) :
    Calls Tryz.prog 58 #[v] w fun e w' => ∃ g A cap', e = .returned (.pointer (some ⟨g, 0, none⟩)) ∧ w.heap.size ≤ g ∧ Rd w' g A cap' l 0 .nilIface [] ∧ Below w.heap.size w w' := by
  have HC := Lib.hid (clone_any h hl)
  obtain ⟨A0, cap0, rfl, _, _, h3⟩ := h
  clear h3
  go_enter Tryz.func58, Tryz.ntmps58
  go_wp2_with fail
  refine (HC.out).mono ?_
  rintro e w1 ⟨v, rfl, hown, hb⟩
  have HO := Lib.hid hown
  have HB := Lib.hid hb
  obtain ⟨A, cap', rfl, hf⟩ : ∃ A cap', v = .slice A l.length cap' ∧ l.length ≤ cap' ∧ cap' ≤ maxLen ∧ ∀ i b, l[i]? = some b → ∃ gb, A = some ⟨gb, 0, none⟩ ∧ gb < w1.heap.size ∧ w1.cell? ⟨gb, i, none⟩ = some (.int .u8 (b.toNat : Int)) := by
    rcases hown with ⟨rfl, rfl⟩ | ⟨g, c, rfl, h⟩
    · exact ⟨_, _, rfl, Nat.zero_le _, by unfold maxLen; omega, fun i b hi => by simp at hi⟩
    · exact ⟨_, _, rfl, h.le, h.max, fun i b hi => ⟨g, rfl, h.lt, h.holds i b hi⟩⟩
  have HF := Lib.hid hf
  clear hown hb hf
  go_wp2
  go_ret
  have hA : Below w1.heap.size w1 (w1.alloc (.cells #[.slice A l.length cap', .int .i64 0, .nilIface] 173)) := (Below.refl _ _).alloc (Nat.le_refl _) _
  refine ⟨w1.heap.size, A, cap', rfl, HB.out.size, ⟨heap_alloc_new w1 _, rfl, HF.out.1, HF.out.2.1, Nat.zero_le _, fun i b hi => ?_⟩, HB.out.trans (hA.mono HB.out.size)⟩
  obtain ⟨gb, q1, q2, q3⟩ := HF.out.2.2 i b hi
  exact ⟨gb, q1, by omega, Nat.lt_of_lt_of_le q2 hA.size, (hA.cell (p := ⟨gb, i, none⟩) q2).trans q3⟩
end Go.Proofs.YtmbonngjkgcijaaGreatDoor

namespace Go.Proofs.YtmbonngjkgcijaaGreatDoor
open Go.RowKit Go.Shelf Go.Lib

def natS (bs : List UInt8) : Option Nat → Nat × Option Nat
  | none => (0, none)
  | some p => match natP (bs.drop p) with
    | none => (0, none)
    | some (n, sz) => (n, some (p + sz))
def numS (bs : List UInt8) (st : Option Nat) : Int × Option Nat := (numV (natS bs st).1, (natS bs st).2)
def strS (most : Nat) (bs : List UInt8) : Option Nat → ByteArray × Option Nat
  | none => (⟨#[]⟩, none)
  | some p => match strP most (bs.drop p) with
    | none => (⟨#[]⟩, none)
    | some (s, k) => (s, some (p + k))
theorem natS_le (bs : List UInt8) (st : Option Nat) : (natS bs st).1 ≤ 18446744073709551615 := by
  unfold natS
  split
  · omega
  · split
    · omega
    · rename_i h
      exact (natP_only h).1
theorem strS_le {most : Nat} {bs : List UInt8} {st : Option Nat} : (strS most bs st).1.size ≤ most := by
  unfold strS
  split
  · exact Nat.zero_le _
  · split
    · exact Nat.zero_le _
    · rename_i h
      exact (strP_only h).1
/-- A reader at block g, over bytes. -/
def RdS (w : World) (g : Nat) (A : Option Addr) (cap : Nat) (bs : List UInt8) : Option Nat → Prop
  | none => Bad w g A cap bs
  | some p => Rd w g A cap bs p .nilIface []
theorem RdS.below {w w' : World} {g : Nat} {A : Option Addr} {cap : Nat} {bs : List UInt8} {st : Option Nat} (h : RdS w g A cap bs st) (hb : Below w.heap.size w w') : RdS w' g A cap bs st := by
  cases st with
  | none =>
    obtain ⟨p, e, t, u, h1, h2, h3, h⟩ := h
    exact ⟨p, e, t, u, h1, h2, h3, h.below hb⟩
  | some p => exact Rd.below h hb
theorem RdS.lt {w : World} {g : Nat} {A : Option Addr} {cap : Nat} {bs : List UInt8} {st : Option Nat} (h : RdS w g A cap bs st) : g < w.heap.size := by
  cases st with
  | none =>
    obtain ⟨p, e, t, u, h1, h2, h3, h⟩ := h
    exact ErrIs.lt h.blk
  | some p => exact ErrIs.lt (Rd.blk h)
set_option maxRecDepth 100000 in
set_option maxHeartbeats 1000000 in
theorem rnat_wrong {w : World} {g : Nat} {A : Option Addr} {cap : Nat} {bs : List UInt8} (h : Bad w g A cap bs) :
    Calls Tryz.prog 103 #[.pointer (some ⟨g, 0, none⟩)] w fun e w' => e = .returned (.int .u64 0) ∧ w = w' := by
  obtain ⟨p, e, t, u, _, _, _, hR⟩ := h
  have HG := Lib.hid (good_no hR)
  clear hR
  go_enter Tryz.func103, Tryz.ntmps103
  go_wp2_with fail
  refine (HG.out).mono ?_
  rintro e w' ⟨rfl, rfl⟩
  go_wp2
  go_ret
  exact ⟨rfl, rfl⟩
set_option maxRecDepth 100000 in
set_option maxHeartbeats 1000000 in
theorem rnum_wrong {w : World} {g : Nat} {A : Option Addr} {cap : Nat} {bs : List UInt8} (h : Bad w g A cap bs) :
    Calls Tryz.prog 151 #[.pointer (some ⟨g, 0, none⟩)] w fun e w' => e = .returned (.int .i64 0) ∧ w = w' := by
  have HN := Lib.hid (rnat_wrong h)
  clear h
  go_enter Tryz.func151, Tryz.ntmps151
  go_wp2_with fail
  refine (HN.out).mono ?_
  rintro e w' ⟨rfl, rfl⟩
  go_wp2
  go_ret
  exact ⟨rfl, rfl⟩
set_option maxRecDepth 100000 in
set_option maxHeartbeats 1000000 in
theorem rstr_wrong {w : World} {g : Nat} {A : Option Addr} {cap : Nat} {bs : List UInt8} (m : Int) (h : Bad w g A cap bs) :
    Calls Tryz.prog 61 #[.pointer (some ⟨g, 0, none⟩), .int .i64 m] w fun e w' => e = .returned (.string ⟨#[]⟩) ∧ w = w' := by
  obtain ⟨p, e, t, u, _, _, _, hR⟩ := h
  have HG := Lib.hid (good_no hR)
  clear hR
  go_enter Tryz.func61, Tryz.ntmps61
  go_wp2_with fail
  refine (HG.out).mono ?_
  rintro e w' ⟨rfl, rfl⟩
  go_wp2
  go_ret
  exact ⟨rfl, rfl⟩
theorem Only.refl (g : Nat) (w : World) : Only g w w := Only.of_below (Below.refl _ _)
/-- Nat. -/
theorem nat_u {w : World} {g : Nat} {A : Option Addr} {cap : Nat} {bs : List UInt8} {st : Option Nat} (h : RdS w g A cap bs st) :
    Calls Tryz.prog 103 #[.pointer (some ⟨g, 0, none⟩)] w fun e w' => e = .returned (.int .u64 ((natS bs st).1 : Int)) ∧ RdS w' g A cap bs (natS bs st).2 ∧ Only g w w' := by
  cases st with
  | none =>
    refine (rnat_wrong h).mono ?_
    rintro e w' ⟨rfl, rfl⟩
    exact ⟨rfl, h, Only.refl _ _⟩
  | some p =>
    cases hp : natP (bs.drop p) with
    | none =>
      have e1 : natS bs (some p) = (0, none) := by unfold natS; simp only [hp]
      rw [e1]
      refine (rnat_bad h hp).mono ?_
      rintro e w' ⟨rfl, ⟨t, u, hR⟩, hO⟩
      exact ⟨rfl, ⟨_, _, _, _, by decide, by decide, by decide, hR⟩, hO⟩
    | some x =>
      obtain ⟨n, sz⟩ := x
      have e1 : natS bs (some p) = (n, some (p + sz)) := by unfold natS; simp only [hp]
      rw [e1]
      exact rnat_ok h hp
theorem numV0 : numV 0 = 0 := by unfold numV; simp
/-- Num. -/
theorem num_u {w : World} {g : Nat} {A : Option Addr} {cap : Nat} {bs : List UInt8} {st : Option Nat} (h : RdS w g A cap bs st) :
    Calls Tryz.prog 151 #[.pointer (some ⟨g, 0, none⟩)] w fun e w' => e = .returned (.int .i64 (numS bs st).1) ∧ RdS w' g A cap bs (numS bs st).2 ∧ Only g w w' := by
  unfold numS
  cases st with
  | none =>
    refine (rnum_wrong h).mono ?_
    rintro e w' ⟨rfl, rfl⟩
    exact ⟨by show _ = Ending.returned (.int .i64 (numV 0)); rw [numV0], h, Only.refl _ _⟩
  | some p =>
    cases hp : natP (bs.drop p) with
    | none =>
      have e1 : natS bs (some p) = (0, none) := by unfold natS; simp only [hp]
      rw [e1]
      refine (rnum_bad h hp).mono ?_
      rintro e w' ⟨rfl, h1, h2⟩
      exact ⟨by show _ = Ending.returned (.int .i64 (numV 0)); rw [numV0], h1, h2⟩
    | some x =>
      obtain ⟨n, sz⟩ := x
      have e1 : natS bs (some p) = (n, some (p + sz)) := by unfold natS; simp only [hp]
      rw [e1]
      exact rnum_ok h hp (natP_only hp).1
/-- Str. -/
theorem str_u {w : World} {g : Nat} {A : Option Addr} {cap : Nat} {bs : List UInt8} {st : Option Nat} {most : Nat} (hm : most ≤ 1073741824) (h : RdS w g A cap bs st) :
    Calls Tryz.prog 61 #[.pointer (some ⟨g, 0, none⟩), .int .i64 (most : Int)] w fun e w' => e = .returned (.string (strS most bs st).1) ∧ RdS w' g A cap bs (strS most bs st).2 ∧ Only g w w' := by
  cases st with
  | none =>
    refine (rstr_wrong _ h).mono ?_
    rintro e w' ⟨rfl, rfl⟩
    exact ⟨rfl, h, Only.refl _ _⟩
  | some p =>
    cases hp : strP most (bs.drop p) with
    | none =>
      have e1 : strS most bs (some p) = (⟨#[]⟩, none) := by unfold strS; simp only [hp]
      rw [e1]
      exact rstr_bad h hp hm
    | some x =>
      obtain ⟨s, k⟩ := x
      have e1 : strS most bs (some p) = (s, some (p + k)) := by unfold strS; simp only [hp]
      rw [e1]
      exact rstr_P h hp hm
/-- End. -/
theorem end_u {w : World} {g : Nat} {A : Option Addr} {cap : Nat} {bs : List UInt8} {st : Option Nat} (hG : Glob w) (hg : g ≠ 1) (h : RdS w g A cap bs st) :
    Calls Tryz.prog 62 #[.pointer (some ⟨g, 0, none⟩)] w fun e w' => ∃ x : Int, e = .returned (.int .i64 x) ∧ (x == 0) = decide (st = some bs.length) ∧ Only g w w' := by
  cases st with
  | none =>
    refine (rend_bad hG h).mono ?_
    rintro e w' ⟨⟨x, rfl, hx⟩, hb⟩
    exact ⟨x, rfl, by simpa using hx, Only.of_below hb⟩
  | some p =>
    by_cases hp : p = bs.length
    · subst hp
      refine (rend_ok hG h).mono ?_
      rintro e w' ⟨rfl, hb⟩
      exact ⟨0, rfl, by simp, Only.of_below hb⟩
    · refine (rend_left hG hg h (by have := Rd.pos_le h; omega)).mono ?_
      rintro e w' ⟨⟨x, rfl, hx⟩, hO⟩
      exact ⟨x, rfl, by simp [hp, hx], hO⟩
end Go.Proofs.YtmbonngjkgcijaaGreatDoor
