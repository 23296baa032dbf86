/- The reader of package octet, where what is read is not there: Nat, Str. (Of stage 1's OctG, OctH, OctI.) -/
import Derived.Test.YtfaaeacgmlklhaaDoorZOmpC
set_option linter.unusedSimpArgs false
set_option linter.unusedVariables false
set_option linter.unnecessarySimpa false
namespace Go.Proofs.YtfaaeacgmlklhaaDoor
open Go.RowKit Go.Shelf Go.Lib


set_option maxRecDepth 100000 in
set_option maxHeartbeats 1000000 in
theorem nat_empty {w : World} {a : Option Addr} {cap : Nat} : Calls Tryd.prog 56 #[.slice a 0 cap] w fun e w' => e = .returned (.tuple #[.int .u64 0, .int .i64 0, .bool false]) ∧ w' = w := by
  go_enter Tryd.func56, Tryd.ntmps56
  go_wp2
  go_ret3
  exact ⟨rfl, rfl⟩
set_option maxRecDepth 100000 in
set_option maxHeartbeats 1000000 in
theorem nat_big {w : World} {gb o cap m : Nat} {k : Int} (hk : 8 < k) (hc : m + 1 ≤ cap) (hcell : w.cell? ⟨gb, o, none⟩ = some (.int .u8 k)) : Calls Tryd.prog 56 #[.slice (some ⟨gb, o, none⟩) (m + 1) cap] w fun e w' => e = .returned (.tuple #[.int .u64 0, .int .i64 0, .bool false]) ∧ w' = w := by
  go_enter Tryd.func56, Tryd.ntmps56
  go_wp2
  go_ret3
  exact ⟨rfl, rfl⟩
set_option maxRecDepth 100000 in
set_option maxHeartbeats 1000000 in
theorem nat_short {w : World} {gb o cap m k : Nat} (hk : k ≤ 8) (hmk : m < k) (hc : m + 1 ≤ cap) (hcell : w.cell? ⟨gb, o, none⟩ = some (.int .u8 (k : Int))) : Calls Tryd.prog 56 #[.slice (some ⟨gb, o, none⟩) (m + 1) cap] w fun e w' => e = .returned (.tuple #[.int .u64 0, .int .i64 0, .bool false]) ∧ w' = w := by
  have p2 : (((m : Int) + 1) == 0) = false := beq_eq_false_iff_ne.2 (by omega)
  have p3 : decide ((m : Int) + 1 < 1 + (k : Int)) = true := by simp; omega
  have p7 : decide (8 < (k : Int)) = false := by simp; omega
  have p9 : (k : Int) ≤ 8 := by omega
  have p10 : (0 : Int) ≤ (k : Int) := by omega
  go_enter Tryd.func56, Tryd.ntmps56
  go_wp2
  go_ret3
  exact ⟨rfl, rfl⟩
set_option maxRecDepth 100000 in
set_option maxHeartbeats 1000000 in
theorem nat_lead {w : World} {gb o cap m k : Nat} (hk : k ≤ 8) (hk1 : 1 ≤ k) (hmk : k ≤ m) (hc : m + 1 ≤ cap) (hcell : w.cell? ⟨gb, o, none⟩ = some (.int .u8 (k : Int))) (hc1 : w.cell? ⟨gb, o + 1, none⟩ = some (.int .u8 0)) : Calls Tryd.prog 56 #[.slice (some ⟨gb, o, none⟩) (m + 1) cap] w fun e w' => e = .returned (.tuple #[.int .u64 0, .int .i64 0, .bool false]) ∧ w' = w := by
  have p2 : (((m : Int) + 1) == 0) = false := beq_eq_false_iff_ne.2 (by omega)
  have p3 : decide ((m : Int) + 1 < 1 + (k : Int)) = false := by simp; omega
  have p7 : decide (8 < (k : Int)) = false := by simp; omega
  have p8 : decide (1 < 1 + (k : Int)) = true := by simp; omega
  have p9 : (k : Int) ≤ 8 := by omega
  have p10 : (1 : Int) ≤ (k : Int) := by omega
  have p11 : (1 : Int) < (m : Int) + 1 := by omega
  go_enter Tryd.func56, Tryd.ntmps56
  go_wp2
  go_ret3
  exact ⟨rfl, rfl⟩
theorem nat_none {w : World} {a : Option Addr} {N cap : Nat} {l : List UInt8} (hl : l.length = N) (hc : N ≤ cap) (hcell : l ≠ [] → ∃ gb o, a = some ⟨gb, o, none⟩ ∧ ∀ i b, l[i]? = some b → w.cell? ⟨gb, o + i, none⟩ = some (.int .u8 (b.toNat : Int))) (hp : natP l = none) :
    Calls Tryd.prog 56 #[.slice a N cap] w fun e w' => e = .returned (.tuple #[.int .u64 0, .int .i64 0, .bool false]) ∧ w' = w := by
  subst hl
  cases l with
  | nil => exact nat_empty
  | cons k r =>
    obtain ⟨gb, o, rfl, hcl⟩ := hcell (by simp)
    have h0 := hcl 0 k rfl
    rw [Nat.add_zero] at h0
    rw [natP] at hp
    split at hp
    · exact nat_big (m := r.length) (k := (k.toNat : Int)) (by omega) hc h0
    · split at hp
      · exact nat_short (m := r.length) (k := k.toNat) (by omega) (by omega) hc h0
      · split at hp
        · rename_i h8 hr hz
          have hx : r[0]? = some 0 := hz.2
          exact nat_lead (m := r.length) (k := k.toNat) (by omega) (by omega) (by omega) hc h0 (by simpa using hcl 1 0 (by simpa using hx))
        · cases hp


set_option maxRecDepth 100000 in
set_option maxHeartbeats 2000000 in
theorem rnat_bad1 {w : World} {g : Nat} {A : Option Addr} {cap : Nat} {bs : List UInt8} {pos : Nat} (h : Rd w g A cap bs pos .nilIface []) (hlt : pos < bs.length) (hp : natP (bs.drop pos) = none) :
    Calls Tryd.prog 40 #[.pointer (some ⟨g, 0, none⟩)] w fun e w' => e = .returned (.int .u64 0) ∧ (∃ t u, Rd w' g A cap bs pos (.iface t u) [.plc pos, .num 6]) ∧ Only g w w' := by
  obtain ⟨gb, rfl, hgg, hgl, _⟩ := h.byt 0 bs[0] (List.getElem?_eq_getElem (by omega))
  have hm := h.max
  unfold maxLen at hm
  have hle := h.le
  have H72 := Lib.hid (fun k : Nat => nat_none (w := w.drewN k) (a := some ⟨gb, pos, none⟩) (N := bs.length - pos) (cap := cap - pos) (l := bs.drop pos) (by rw [List.length_drop]) (by omega) (fun _ => ⟨gb, pos, rfl, fun i b hi => by
    rw [List.getElem?_drop] at hi
    obtain ⟨gb', he, _, _, hc⟩ := h.byt (pos + i) b hi
    cases he; exact hc⟩) hp)
  have HG := Lib.hid (good_yes h)
  have c0 := cell_of_row w g 0 _ _ _ h.blk
  have c1 := cell_of_row w g 1 _ _ _ h.blk
  simp at c0 c1
  have H := Lib.hid h
  have q1 : pos ≤ cap := by omega
  have q2 : pos ≤ bs.length := by omega
  have q3 : ¬ cap = pos := by omega
  clear h hp hm
  go_enter Tryd.func40, Tryd.ntmps40
  go_wp2_with fail
  refine (HG.out).mono ?_
  rintro e w' ⟨rfl, rfl⟩
  go_wp2_with fail
  go_quiet ((go_at_call 56; exact Calls.quiet_of_same (H72.out _)))
  go_wp2_with fail
  refine (wrong_any pos 6 (by decide) H.out.pos_le (H.out.below (below_drewN (Below.refl _ _) _))).mono ?_
  rintro e w2 ⟨rfl, ⟨ev, hR2⟩, hO2⟩
  obtain ⟨t, u, rfl⟩ := hR2.err.form1
  have HR2 := Lib.hid hR2
  have HO2 := Lib.hid ((Only.of_below (below_drewN (Below.refl _ _) _)).trans hO2)
  clear hR2 hO2
  go_wp2
  go_ret
  exact ⟨rfl, ⟨_, _, HR2.out⟩, HO2.out⟩
set_option maxRecDepth 100000 in
set_option maxHeartbeats 2000000 in
theorem rnat_bad0 {w : World} {g : Nat} {A : Option Addr} {cap : Nat} {bs : List UInt8} (h : Rd w g A cap bs bs.length .nilIface []) :
    Calls Tryd.prog 40 #[.pointer (some ⟨g, 0, none⟩)] w fun e w' => e = .returned (.int .u64 0) ∧ (∃ t u, Rd w' g A cap bs bs.length (.iface t u) [.plc bs.length, .num 6]) ∧ Only g w w' := by
  have hle := h.le
  have H72 := Lib.hid (fun (k : Nat) (a : Option Addr) (c : Nat) => nat_empty (w := w.drewN k) (a := a) (cap := c))
  have HG := Lib.hid (good_yes h)
  have c0 := cell_of_row w g 0 _ _ _ h.blk
  have c1 := cell_of_row w g 1 _ _ _ h.blk
  simp at c0 c1
  have H := Lib.hid h
  have hm := h.max
  unfold maxLen at hm
  have q5 : bs.length ≤ 9223372036854775807 := by omega
  clear h hm
  rcases A with _ | a <;> by_cases hcp : cap = bs.length
  · subst hcp
    go_enter Tryd.func40, Tryd.ntmps40
    go_wp2_with fail
    refine (HG.out).mono ?_
    rintro e w' ⟨rfl, rfl⟩
    go_wp2_with fail
    go_quiet ((go_at_call 56; exact Calls.quiet_of_same (H72.out _ _ _)))
    go_wp2_with fail
    refine (wrong_any bs.length 6 (by decide) H.out.pos_le (H.out.below (below_drewN (Below.refl _ _) _))).mono ?_
    rintro e w2 ⟨rfl, ⟨ev, hR2⟩, hO2⟩
    obtain ⟨t, u, rfl⟩ := hR2.err.form1
    have HR2 := Lib.hid hR2
    have HO2 := Lib.hid ((Only.of_below (below_drewN (Below.refl _ _) _)).trans hO2)
    clear hR2 hO2
    go_wp2
    go_ret
    exact ⟨rfl, ⟨_, _, HR2.out⟩, HO2.out⟩
  · skip
    go_enter Tryd.func40, Tryd.ntmps40
    go_wp2_with fail
    refine (HG.out).mono ?_
    rintro e w' ⟨rfl, rfl⟩
    go_wp2_with fail
    go_quiet ((go_at_call 56; exact Calls.quiet_of_same (H72.out _ _ _)))
    go_wp2_with fail
    refine (wrong_any bs.length 6 (by decide) H.out.pos_le (H.out.below (below_drewN (Below.refl _ _) _))).mono ?_
    rintro e w2 ⟨rfl, ⟨ev, hR2⟩, hO2⟩
    obtain ⟨t, u, rfl⟩ := hR2.err.form1
    have HR2 := Lib.hid hR2
    have HO2 := Lib.hid ((Only.of_below (below_drewN (Below.refl _ _) _)).trans hO2)
    clear hR2 hO2
    go_wp2
    go_ret
    exact ⟨rfl, ⟨_, _, HR2.out⟩, HO2.out⟩
  · subst hcp
    go_enter Tryd.func40, Tryd.ntmps40
    go_wp2_with fail
    refine (HG.out).mono ?_
    rintro e w' ⟨rfl, rfl⟩
    go_wp2_with fail
    go_quiet ((go_at_call 56; exact Calls.quiet_of_same (H72.out _ _ _)))
    go_wp2_with fail
    refine (wrong_any bs.length 6 (by decide) H.out.pos_le (H.out.below (below_drewN (Below.refl _ _) _))).mono ?_
    rintro e w2 ⟨rfl, ⟨ev, hR2⟩, hO2⟩
    obtain ⟨t, u, rfl⟩ := hR2.err.form1
    have HR2 := Lib.hid hR2
    have HO2 := Lib.hid ((Only.of_below (below_drewN (Below.refl _ _) _)).trans hO2)
    clear hR2 hO2
    go_wp2
    go_ret
    exact ⟨rfl, ⟨_, _, HR2.out⟩, HO2.out⟩
  · skip
    go_enter Tryd.func40, Tryd.ntmps40
    go_wp2_with fail
    refine (HG.out).mono ?_
    rintro e w' ⟨rfl, rfl⟩
    go_wp2_with fail
    go_quiet ((go_at_call 56; exact Calls.quiet_of_same (H72.out _ _ _)))
    go_wp2_with fail
    refine (wrong_any bs.length 6 (by decide) H.out.pos_le (H.out.below (below_drewN (Below.refl _ _) _))).mono ?_
    rintro e w2 ⟨rfl, ⟨ev, hR2⟩, hO2⟩
    obtain ⟨t, u, rfl⟩ := hR2.err.form1
    have HR2 := Lib.hid hR2
    have HO2 := Lib.hid ((Only.of_below (below_drewN (Below.refl _ _) _)).trans hO2)
    clear hR2 hO2
    go_wp2
    go_ret
    exact ⟨rfl, ⟨_, _, HR2.out⟩, HO2.out⟩
theorem rnat_bad {w : World} {g : Nat} {A : Option Addr} {cap : Nat} {bs : List UInt8} {pos : Nat} (h : Rd w g A cap bs pos .nilIface []) (hp : natP (bs.drop pos) = none) :
    Calls Tryd.prog 40 #[.pointer (some ⟨g, 0, none⟩)] w fun e w' => e = .returned (.int .u64 0) ∧ (∃ t u, Rd w' g A cap bs pos (.iface t u) [.plc pos, .num 6]) ∧ Only g w w' := by
  by_cases hlt : pos < bs.length
  · exact rnat_bad1 h hlt hp
  · obtain rfl : pos = bs.length := by have := h.pos_le; omega
    exact rnat_bad0 h


/-- A reader of which something was wrong. -/
def Bad (w : World) (g : Nat) (A : Option Addr) (cap : Nat) (bs : List UInt8) : Prop :=
  ∃ (p : Nat) (e : Int) (t : TypeId) (u : Value), e ≠ 0 ∧ e < 100 ∧ 0 < e ∧ Rd w g A cap bs p (.iface t u) [.plc p, .num e]
set_option maxRecDepth 100000 in
set_option maxHeartbeats 2000000 in
theorem count_bad {w : World} {g : Nat} {A : Option Addr} {cap : Nat} {bs : List UInt8} {pos most : Nat} (h : Rd w g A cap bs pos .nilIface []) (hp : natP (bs.drop pos) = none) (hm64 : most ≤ 1073741824) :
    Calls Tryd.prog 45 #[.pointer (some ⟨g, 0, none⟩), .int .i64 (most : Int)] w fun e w' => e = .returned (.int .i64 0) ∧ Bad w' g A cap bs ∧ Only g w w' := by
  have HG := Lib.hid (good_yes h)
  have HN := Lib.hid (rnat_bad h hp)
  have c1 := cell_of_row w g 1 _ _ _ h.blk
  simp at c1
  have q2 : (0 : Int) ≤ (most : Int) := by omega
  have q3 : (most : Int) ≤ 1073741824 := by omega
  clear h hp
  go_enter Tryd.func45, Tryd.ntmps45
  go_wp2_with fail
  refine (HG.out).mono ?_
  rintro e w' ⟨rfl, rfl⟩
  go_wp2_with fail
  refine (HN.out).mono ?_
  rintro e w1 ⟨rfl, ⟨t, u, hR⟩, hO⟩
  have HR := Lib.hid hR
  have HO := Lib.hid hO
  clear hR hO c1
  go_wp2
  go_ret
  exact ⟨rfl, ⟨_, _, _, _, by decide, by decide, by decide, HR.out⟩, HO.out⟩
set_option maxRecDepth 100000 in
set_option maxHeartbeats 2000000 in
theorem rstr_none {w : World} {g : Nat} {A : Option Addr} {cap : Nat} {bs : List UInt8} {pos most : Nat} (h : Rd w g A cap bs pos .nilIface []) (hp : natP (bs.drop pos) = none) (hm64 : most ≤ 1073741824) :
    Calls Tryd.prog 23 #[.pointer (some ⟨g, 0, none⟩), .int .i64 (most : Int)] w fun e w' => e = .returned (.string ⟨#[]⟩) ∧ Bad w' g A cap bs ∧ Only g w w' := by
  have HG := Lib.hid (good_yes h)
  have HN := Lib.hid (count_bad h hp hm64)
  have c1 := cell_of_row w g 1 _ _ _ h.blk
  simp at c1
  clear h hp
  go_enter Tryd.func23, Tryd.ntmps23
  go_wp2_with fail
  refine (HG.out).mono ?_
  rintro e w' ⟨rfl, rfl⟩
  go_wp2_with fail
  refine (HN.out).mono ?_
  rintro e w1 ⟨rfl, hB, hO⟩
  have HB := Lib.hid hB
  obtain ⟨p, e, t, u, _, _, _, hR⟩ := hB
  have HO := Lib.hid hO
  have HG2 := Lib.hid (good_no hR)
  clear hR hO c1
  go_wp2_with fail
  refine (HG2.out).mono ?_
  rintro e w' ⟨rfl, rfl⟩
  go_wp2
  go_ret
  exact ⟨rfl, HB.out, HO.out⟩
set_option maxRecDepth 100000 in
set_option maxHeartbeats 2000000 in
theorem rstr_cut {w : World} {g : Nat} {A : Option Addr} {cap : Nat} {bs : List UInt8} {pos n sz most : Nat} (h : Rd w g A cap bs pos .nilIface []) (hp : natP (bs.drop pos) = some (n, sz)) (hmost : n ≤ most) (hm64 : most ≤ 1073741824) (hend : bs.length < pos + sz + n) :
    Calls Tryd.prog 23 #[.pointer (some ⟨g, 0, none⟩), .int .i64 (most : Int)] w fun e w' => e = .returned (.string ⟨#[]⟩) ∧ Bad w' g A cap bs ∧ Only g w w' := by
  have HG := Lib.hid (good_yes h)
  have hN := count_ok h hp hmost hm64
  have c1 := cell_of_row w g 1 _ _ _ h.blk
  simp at c1
  have hpl := h.pos_le
  clear h hp
  generalize hps : pos + sz = p at *
  have HN := Lib.hid hN
  clear hN
  go_enter Tryd.func23, Tryd.ntmps23
  go_wp2_with fail
  refine (HG.out).mono ?_
  rintro e w' ⟨rfl, rfl⟩
  go_wp2_with fail
  refine (HN.out).mono ?_
  rintro e w1 ⟨rfl, hR, hO⟩
  have HR := Lib.hid hR
  have HO := Lib.hid hO
  have HG2 := Lib.hid (good_yes hR)
  have HL := Lib.hid (left_any hR)
  clear hR hO c1 hps
  have q4 : (bs.length : Int) - (p : Int) < (n : Int) := by omega
  go_wp2_with fail
  refine (HG2.out).mono ?_
  rintro e w' ⟨rfl, rfl⟩
  go_wp2_with fail
  refine (HL.out).mono ?_
  rintro e w2 ⟨rfl, k2, rfl⟩
  go_wp2_with fail
  refine (wrong_any pos 6 (by decide) hpl (HR.out.below (below_drewN (Below.refl _ _) k2))).mono ?_
  rintro e w3 ⟨rfl, ⟨ev, hR2⟩, hO2⟩
  obtain ⟨t, u, rfl⟩ := hR2.err.form1
  have HR2 := Lib.hid hR2
  have HO2 := Lib.hid ((Only.of_below (below_drewN (Below.refl _ _) _)).trans hO2)
  clear hR2 hO2
  go_wp2
  go_ret
  exact ⟨rfl, ⟨_, _, _, _, by decide, by decide, by decide, HR2.out⟩, HO.out.trans HO2.out⟩
theorem rstr_bad {w : World} {g : Nat} {A : Option Addr} {cap : Nat} {bs : List UInt8} {pos most : Nat} (h : Rd w g A cap bs pos .nilIface []) (hp : strP most (bs.drop pos) = none) (hm64 : most ≤ 1073741824) :
    Calls Tryd.prog 23 #[.pointer (some ⟨g, 0, none⟩), .int .i64 (most : Int)] w fun e w' => e = .returned (.string ⟨#[]⟩) ∧ Bad w' g A cap bs ∧ Only g w w' := by
  unfold strP at hp
  split at hp
  · rename_i hn
    exact rstr_none h hn hm64
  · rename_i n sz hn
    split at hp
    · rename_i hl
      refine (rstr_long h hn hl hm64).mono ?_
      rintro e w' ⟨rfl, ⟨t, u, hR⟩, hO⟩
      exact ⟨rfl, ⟨_, _, _, _, by decide, by decide, by decide, hR⟩, hO⟩
    · split at hp
      · rename_i hl hc
        rw [List.length_drop] at hc
        exact rstr_cut h hn (by omega) hm64 (by have := h.pos_le; omega)
      · cases hp

end Go.Proofs.YtfaaeacgmlklhaaDoor
