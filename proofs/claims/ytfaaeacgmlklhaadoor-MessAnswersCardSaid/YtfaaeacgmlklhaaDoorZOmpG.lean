/- The reader of package octet told by one state: where it stands, or that something was wrong. -/
import Derived.Test.YtfaaeacgmlklhaaDoorZOmpF
set_option linter.unusedSimpArgs false
set_option linter.unusedVariables false
set_option linter.unnecessarySimpa false
namespace Go.Proofs.YtfaaeacgmlklhaaDoor
open Go.RowKit Go.Shelf Go.Lib

def natS (bs : List UInt8) : Option Nat → Nat × Option Nat
  | none => (0, none)
  | some p => match natP (bs.drop p) with
    | none => (0, none)
    | some (n, sz) => (n, some (p + sz))
def numS (bs : List UInt8) (st : Option Nat) : Int × Option Nat := (numV (natS bs st).1, (natS bs st).2)
def strS (most : Nat) (bs : List UInt8) : Option Nat → ByteArray × Option Nat
  | none => (⟨#[]⟩, none)
  | some p => match strP most (bs.drop p) with
    | none => (⟨#[]⟩, none)
    | some (s, k) => (s, some (p + k))
theorem natS_le (bs : List UInt8) (st : Option Nat) : (natS bs st).1 ≤ 18446744073709551615 := by
  unfold natS
  split
  · omega
  · split
    · omega
    · rename_i h
      exact (natP_only h).1
theorem numS_in (bs : List UInt8) (st : Option Nat) : -9223372036854775808 ≤ (numS bs st).1 ∧ (numS bs st).1 ≤ 9223372036854775807 := by
  have h := natS_le bs st
  unfold numS numV
  simp only
  split <;> omega
theorem strS_le {most : Nat} {bs : List UInt8} {st : Option Nat} : (strS most bs st).1.size ≤ most := by
  unfold strS
  split
  · exact Nat.zero_le _
  · split
    · exact Nat.zero_le _
    · rename_i h
      exact (strP_only h).1
/-- A reader at block g, over bytes. -/
def RdS (w : World) (g : Nat) (A : Option Addr) (cap : Nat) (bs : List UInt8) : Option Nat → Prop
  | none => Bad w g A cap bs
  | some p => Rd w g A cap bs p .nilIface []
theorem RdS.below {w w' : World} {g : Nat} {A : Option Addr} {cap : Nat} {bs : List UInt8} {st : Option Nat} (h : RdS w g A cap bs st) (hb : Below w.heap.size w w') : RdS w' g A cap bs st := by
  cases st with
  | none =>
    obtain ⟨p, e, t, u, h1, h2, h3, h⟩ := h
    exact ⟨p, e, t, u, h1, h2, h3, h.below hb⟩
  | some p => exact Rd.below h hb
theorem RdS.lt {w : World} {g : Nat} {A : Option Addr} {cap : Nat} {bs : List UInt8} {st : Option Nat} (h : RdS w g A cap bs st) : g < w.heap.size := by
  cases st with
  | none =>
    obtain ⟨p, e, t, u, h1, h2, h3, h⟩ := h
    exact ErrIs.lt h.blk
  | some p => exact ErrIs.lt (Rd.blk h)
set_option maxRecDepth 100000 in
set_option maxHeartbeats 1000000 in
theorem rnat_wrong {w : World} {g : Nat} {A : Option Addr} {cap : Nat} {bs : List UInt8} (h : Bad w g A cap bs) :
    Calls Tryd.prog 40 #[.pointer (some ⟨g, 0, none⟩)] w fun e w' => e = .returned (.int .u64 0) ∧ w = w' := by
  obtain ⟨p, e, t, u, _, _, _, hR⟩ := h
  have HG := Lib.hid (good_no hR)
  clear hR
  go_enter Tryd.func40, Tryd.ntmps40
  go_wp2_with fail
  refine (HG.out).mono ?_
  rintro e w' ⟨rfl, rfl⟩
  go_wp2
  go_ret
  exact ⟨rfl, rfl⟩
set_option maxRecDepth 100000 in
set_option maxHeartbeats 1000000 in
theorem rnum_wrong {w : World} {g : Nat} {A : Option Addr} {cap : Nat} {bs : List UInt8} (h : Bad w g A cap bs) :
    Calls Tryd.prog 57 #[.pointer (some ⟨g, 0, none⟩)] w fun e w' => e = .returned (.int .i64 0) ∧ w = w' := by
  have HN := Lib.hid (rnat_wrong h)
  clear h
  go_enter Tryd.func57, Tryd.ntmps57
  go_wp2_with fail
  refine (HN.out).mono ?_
  rintro e w' ⟨rfl, rfl⟩
  go_wp2
  go_ret
  exact ⟨rfl, rfl⟩
set_option maxRecDepth 100000 in
set_option maxHeartbeats 1000000 in
theorem rstr_wrong {w : World} {g : Nat} {A : Option Addr} {cap : Nat} {bs : List UInt8} (m : Int) (h : Bad w g A cap bs) :
    Calls Tryd.prog 23 #[.pointer (some ⟨g, 0, none⟩), .int .i64 m] w fun e w' => e = .returned (.string ⟨#[]⟩) ∧ w = w' := by
  obtain ⟨p, e, t, u, _, _, _, hR⟩ := h
  have HG := Lib.hid (good_no hR)
  clear hR
  go_enter Tryd.func23, Tryd.ntmps23
  go_wp2_with fail
  refine (HG.out).mono ?_
  rintro e w' ⟨rfl, rfl⟩
  go_wp2
  go_ret
  exact ⟨rfl, rfl⟩
theorem Only.refl (g : Nat) (w : World) : Only g w w := Only.of_below (Below.refl _ _)
/-- Nat. -/
theorem nat_u {w : World} {g : Nat} {A : Option Addr} {cap : Nat} {bs : List UInt8} {st : Option Nat} (h : RdS w g A cap bs st) :
    Calls Tryd.prog 40 #[.pointer (some ⟨g, 0, none⟩)] w fun e w' => e = .returned (.int .u64 ((natS bs st).1 : Int)) ∧ RdS w' g A cap bs (natS bs st).2 ∧ Only g w w' := by
  cases st with
  | none =>
    refine (rnat_wrong h).mono ?_
    rintro e w' ⟨rfl, rfl⟩
    exact ⟨rfl, h, Only.refl _ _⟩
  | some p =>
    cases hp : natP (bs.drop p) with
    | none =>
      have e1 : natS bs (some p) = (0, none) := by unfold natS; simp only [hp]
      rw [e1]
      refine (rnat_bad h hp).mono ?_
      rintro e w' ⟨rfl, ⟨t, u, hR⟩, hO⟩
      exact ⟨rfl, ⟨_, _, _, _, by decide, by decide, by decide, hR⟩, hO⟩
    | some x =>
      obtain ⟨n, sz⟩ := x
      have e1 : natS bs (some p) = (n, some (p + sz)) := by unfold natS; simp only [hp]
      rw [e1]
      exact rnat_ok h hp
theorem numV0 : numV 0 = 0 := by unfold numV; simp
/-- Num. -/
theorem num_u {w : World} {g : Nat} {A : Option Addr} {cap : Nat} {bs : List UInt8} {st : Option Nat} (h : RdS w g A cap bs st) :
    Calls Tryd.prog 57 #[.pointer (some ⟨g, 0, none⟩)] w fun e w' => e = .returned (.int .i64 (numS bs st).1) ∧ RdS w' g A cap bs (numS bs st).2 ∧ Only g w w' := by
  unfold numS
  cases st with
  | none =>
    refine (rnum_wrong h).mono ?_
    rintro e w' ⟨rfl, rfl⟩
    exact ⟨by show _ = Ending.returned (.int .i64 (numV 0)); rw [numV0], h, Only.refl _ _⟩
  | some p =>
    cases hp : natP (bs.drop p) with
    | none =>
      have e1 : natS bs (some p) = (0, none) := by unfold natS; simp only [hp]
      rw [e1]
      refine (rnum_bad h hp).mono ?_
      rintro e w' ⟨rfl, h1, h2⟩
      exact ⟨by show _ = Ending.returned (.int .i64 (numV 0)); rw [numV0], h1, h2⟩
    | some x =>
      obtain ⟨n, sz⟩ := x
      have e1 : natS bs (some p) = (n, some (p + sz)) := by unfold natS; simp only [hp]
      rw [e1]
      exact rnum_ok h hp (natP_only hp).1
/-- Str. -/
theorem str_u {w : World} {g : Nat} {A : Option Addr} {cap : Nat} {bs : List UInt8} {st : Option Nat} {most : Nat} (hm : most ≤ 1073741824) (h : RdS w g A cap bs st) :
    Calls Tryd.prog 23 #[.pointer (some ⟨g, 0, none⟩), .int .i64 (most : Int)] w fun e w' => e = .returned (.string (strS most bs st).1) ∧ RdS w' g A cap bs (strS most bs st).2 ∧ Only g w w' := by
  cases st with
  | none =>
    refine (rstr_wrong _ h).mono ?_
    rintro e w' ⟨rfl, rfl⟩
    exact ⟨rfl, h, Only.refl _ _⟩
  | some p =>
    cases hp : strP most (bs.drop p) with
    | none =>
      have e1 : strS most bs (some p) = (⟨#[]⟩, none) := by unfold strS; simp only [hp]
      rw [e1]
      exact rstr_bad h hp hm
    | some x =>
      obtain ⟨s, k⟩ := x
      have e1 : strS most bs (some p) = (s, some (p + k)) := by unfold strS; simp only [hp]
      rw [e1]
      exact rstr_P h hp hm
/-- Err. -/
theorem err_u {w : World} {g : Nat} {A : Option Addr} {cap : Nat} {bs : List UInt8} {st : Option Nat} (hG : Glob w) (h : RdS w g A cap bs st) :
    Calls Tryd.prog 48 #[.pointer (some ⟨g, 0, none⟩)] w fun e w' => ∃ x : Int, e = .returned (.int .i64 x) ∧ (x == 0) = st.isSome ∧ Below w.heap.size w w' := by
  cases st with
  | none =>
    obtain ⟨p, e, t, u, h1, h2, h3, hR⟩ := h
    refine (rerr_any hG hR (Bad.numOk h3 h2) (by show 2 < 1000; omega)).mono ?_
    rintro e' w' ⟨rfl, hb⟩
    exact ⟨e, rfl, by simpa using h1, hb⟩
  | some p =>
    refine (rerr_any hG h (fun e he => by simp at he) (by decide)).mono ?_
    rintro e' w' ⟨rfl, hb⟩
    exact ⟨0, rfl, rfl, hb⟩
/-- End. -/
theorem end_u {w : World} {g : Nat} {A : Option Addr} {cap : Nat} {bs : List UInt8} {st : Option Nat} (hG : Glob w) (hg : g ≠ 1) (h : RdS w g A cap bs st) :
    Calls Tryd.prog 24 #[.pointer (some ⟨g, 0, none⟩)] w fun e w' => ∃ x : Int, e = .returned (.int .i64 x) ∧ (x == 0) = decide (st = some bs.length) ∧ Only g w w' := by
  cases st with
  | none =>
    refine (rend_bad hG h).mono ?_
    rintro e w' ⟨⟨x, rfl, hx⟩, hb⟩
    exact ⟨x, rfl, by simpa using hx, Only.of_below hb⟩
  | some p =>
    by_cases hp : p = bs.length
    · subst hp
      refine (rend_ok hG h).mono ?_
      rintro e w' ⟨rfl, hb⟩
      exact ⟨0, rfl, by simp, Only.of_below hb⟩
    · refine (rend_left hG hg h (by have := Rd.pos_le h; omega)).mono ?_
      rintro e w' ⟨⟨x, rfl, hx⟩, hO⟩
      exact ⟨x, rfl, by simp [hp, hx], hO⟩
end Go.Proofs.YtfaaeacgmlklhaaDoor
