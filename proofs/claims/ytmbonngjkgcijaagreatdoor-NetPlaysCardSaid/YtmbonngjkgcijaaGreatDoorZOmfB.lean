/- The document's own reader of bytes: Of, Nat, Num, Str, End. The document's own reader of bytes: Num, Str, End. The document's own way to read operations and messages, in plain words: it reads the same. The document's own reader of messages: small; frames; what stays of a reader. -/
import Derived.Test.YtmbonngjkgcijaaGreatDoorZNraD
import Derived.Test.YtmbonngjkgcijaaGreatDoorZOmpD
import Derived.BigQuiet
import Derived.Test.YtmbonngjkgcijaaGreatDoorZMeaQ
import Derived.Test.YtmbonngjkgcijaaGreatDoorZRcsA
import Derived.Test.YtmbonngjkgcijaaGreatDoorZMeeB
set_option linter.unusedSimpArgs false
set_option linter.unusedVariables false
set_option linter.unnecessarySimpa false
namespace Go.Proofs.YtmbonngjkgcijaaGreatDoor
open Go.RowKit Go.Shelf Go.Lib

theorem RfAt.only {w w' : World} {g : Nat} {A : Option Addr} {cap : Nat} {bs : List UInt8} {p p' : Nat} {e e' bad bad' : Int} (h : RfAt w g A cap bs p e bad) (ho : Only g w w') (hp : p' ≤ bs.length) (hb : w'.heap[g]? = some (.cells #[.slice A bs.length cap, .int .i64 (p' : Int), .int .i64 e', .int .i64 bad'] 236 (0, 0))) : RfAt w' g A cap bs p' e' bad' :=
  ⟨hb, hp, h.room, h.max, fun i b hi => by
    obtain ⟨a, h1, h2, h3, h4⟩ := h.byt i b hi
    exact ⟨a, h1, Nat.lt_of_lt_of_le h2 ho.size, h3, (World.cell?_of_block (by rw [add_block]; exact ho.block _ h2 h3)).trans h4⟩⟩
theorem RfAt.below {w w' : World} {g : Nat} {A : Option Addr} {cap : Nat} {bs : List UInt8} {p : Nat} {e bad : Int} (h : RfAt w g A cap bs p e bad) (hb : Below w.heap.size w w') : RfAt w' g A cap bs p e bad :=
  h.only (Only.of_below hb) h.le ((hb.block g (heap_lt h.blk)).trans h.blk)
/-- The document's own reader, told by one state. -/
def RfS (w : World) (g : Nat) (A : Option Addr) (cap : Nat) (bs : List UInt8) : Option Nat → Prop
  | none => ∃ p e bad, e ≠ 0 ∧ RfAt w g A cap bs p e bad
  | some p => ∃ bad, RfAt w g A cap bs p 0 bad
theorem RfS.below {w w' : World} {g : Nat} {A : Option Addr} {cap : Nat} {bs : List UInt8} {st : Option Nat} (h : RfS w g A cap bs st) (hb : Below w.heap.size w w') : RfS w' g A cap bs st := by
  cases st with
  | none =>
    obtain ⟨p, e, bad, h1, h2⟩ := h
    exact ⟨p, e, bad, h1, h2.below hb⟩
  | some p =>
    obtain ⟨bad, h2⟩ := h
    exact ⟨bad, h2.below hb⟩
theorem RfS.lt {w : World} {g : Nat} {A : Option Addr} {cap : Nat} {bs : List UInt8} {st : Option Nat} (h : RfS w g A cap bs st) : g < w.heap.size := by
  cases st with
  | none =>
    obtain ⟨p, e, bad, h1, h2⟩ := h
    exact heap_lt h2.blk
  | some p =>
    obtain ⟨bad, h2⟩ := h
    exact heap_lt h2.blk
theorem RfS.keepB {w0 w w' : World} {g : Nat} {A : Option Addr} {cap : Nat} {bs : List UInt8} {s0 st : Option Nat} (h0 : RfS w0 g A cap bs s0) (h : RfS w g A cap bs st) (hb : Below w0.heap.size w w') (hA : ∀ a, A = some a → bs ≠ [] → a.block < w0.heap.size) : RfS w' g A cap bs st := by
  have hg := h0.lt
  have key : ∀ {p e bad}, RfAt w g A cap bs p e bad → RfAt w' g A cap bs p e bad := fun {p e bad} h => ⟨(hb.block g hg).trans h.blk, h.le, h.room, h.max, fun i b hi => by
    obtain ⟨a, h1, h2, h3, h4⟩ := h.byt i b hi
    have := hA a h1 (fun e => by rw [e] at hi; simp at hi)
    exact ⟨a, h1, Nat.lt_of_lt_of_le h2 hb.size, h3, (hb.cell (by rw [add_block]; exact this)).trans h4⟩⟩
  cases st with
  | none =>
    obtain ⟨p, e, bad, h1, h2⟩ := h
    exact ⟨p, e, bad, h1, key h2⟩
  | some p =>
    obtain ⟨bad, h2⟩ := h
    exact ⟨bad, key h2⟩
set_option maxRecDepth 100000 in
set_option maxHeartbeats 1000000 in
theorem rf_of {w : World} {A : Option Addr} {cap : Nat} {bs : List UInt8} (h1 : bs.length ≤ cap) (h2 : cap ≤ maxLen) (h3 : ∀ i b, bs[i]? = some b → ∃ a : Addr, A = some a ∧ a.block < w.heap.size ∧ w.cell? (a.add i) = some (.int .u8 (b.toNat : Int))) :
    Calls Tryz.prog 135 #[.slice A bs.length cap] w fun e w' => ∃ g, e = .returned (.pointer (some ⟨g, 0, none⟩)) ∧ w.heap.size ≤ g ∧ RfS w' g A cap bs (some 0) ∧ Below w.heap.size w w' := by
  have H := Lib.hid (And.intro h1 (And.intro h2 h3))
  clear h1 h2 h3
  go_enter Tryz.func135, Tryz.ntmps135
  go_wp2
  go_ret
  obtain ⟨h1, h2, h3⟩ := H.out
  have hA : Below w.heap.size w (w.alloc (.cells #[.slice A bs.length cap, .int .i64 0, .int .i64 0, .int .i64 (-1)] 236)) := below_new _
  refine ⟨w.heap.size, rfl, Nat.le_refl _, ⟨-1, alloc_at w _, Nat.zero_le _, h1, h2, fun i b hi => ?_⟩, hA⟩
  obtain ⟨a, q1, q2, q3⟩ := h3 i b hi
  exact ⟨a, q1, Nat.lt_of_lt_of_le q2 hA.size, by omega, (hA.cell (by rw [add_block]; exact q2)).trans q3⟩
set_option maxRecDepth 100000 in
set_option maxHeartbeats 1000000 in
theorem rf_wrong {w : World} {g : Nat} {A : Option Addr} {cap : Nat} {bs : List UInt8} {p : Nat} {e bad : Int} (h : RfAt w g A cap bs p e bad) (e' : Int) :
    Calls Tryz.prog 165 #[.pointer (some ⟨g, 0, none⟩), .int .i64 (p : Int), .int .i64 e'] w fun x w' => x = .returned (.tuple #[]) ∧ RfAt w' g A cap bs p e' p ∧ Only g w w' := by
  have c1 : w.cell? ⟨g, 1, none⟩ = some (.int .i64 (p : Int)) := cell_of h.blk 1
  have c2 : w.cell? ⟨g, 2, none⟩ = some (.int .i64 e) := cell_of h.blk 2
  have c3 : w.cell? ⟨g, 3, none⟩ = some (.int .i64 bad) := cell_of h.blk 3
  have f1 := free0 h.blk 1; have f2 := free0 h.blk 2; have f3 := free0 h.blk 3
  have H := Lib.hid h
  clear h
  go_enter Tryz.func165, Tryz.ntmps165
  go_wp2
  go_end0
  have b1 := set_at H.out.blk 2 (.int .i64 e')
  have b2 := set_at b1 3 (.int .i64 (p : Int))
  have b3 := set_at b2 1 (.int .i64 (p : Int))
  have ho := (((Only.refl g w).setCell 2 (.int .i64 e')).setCell 3 (.int .i64 (p : Int))).setCell 1 (.int .i64 (p : Int))
  exact ⟨rfl, H.out.only ho H.out.le (by simpa using b3), ho⟩
set_option maxRecDepth 100000 in
set_option maxHeartbeats 2000000 in
/-- Nat. -/
theorem rnat_u {w : World} {g : Nat} {A : Option Addr} {cap : Nat} {bs : List UInt8} {st : Option Nat} (h : RfS w g A cap bs st) :
    Calls Tryz.prog 137 #[.pointer (some ⟨g, 0, none⟩)] w fun e w' => e = .returned (.int .u64 ((natS bs st).1 : Int)) ∧ RfS w' g A cap bs (natS bs st).2 ∧ Only g w w' := by
  cases st with
  | none =>
    obtain ⟨p, e, bad, he, hR⟩ := h
    have c2 : w.cell? ⟨g, 2, none⟩ = some (.int .i64 e) := cell_of hR.blk 2
    have he2 : (e == 0) = false := by simpa using he
    have H := Lib.hid (show RfS w g A cap bs none from ⟨p, e, bad, he, hR⟩)
    clear hR
    go_enter Tryz.func137, Tryz.ntmps137
    go_wp2_with fail
    go_ret
    exact ⟨rfl, H.out, Only.refl _ _⟩
  | some p =>
    obtain ⟨bad, hR⟩ := h
    have c2 : w.cell? ⟨g, 2, none⟩ = some (.int .i64 0) := cell_of hR.blk 2
    have c1 : w.cell? ⟨g, 1, none⟩ = some (.int .i64 (p : Int)) := cell_of hR.blk 1
    have f1 := free0 hR.blk 1
    have HN := Lib.hid (rf_nat hR)
    have HW := Lib.hid (rf_wrong hR 6)
    have H := Lib.hid hR
    have hpl := hR.le
    have hcm := hR.room
    have hmx := hR.max
    unfold maxLen at hmx
    cases hp : natP (bs.drop p) with
    | none =>
      have e1 : natS bs (some p) = (0, none) := by unfold natS; simp only [hp]
      rw [e1]
      rw [hp] at HN
      clear hR hp
      go_enter Tryz.func137, Tryz.ntmps137
      go_wp2_with fail
      refine (HN.out).mono ?_
      rintro e w' ⟨rfl, rfl⟩
      go_wp2_with fail
      refine (HW.out).mono ?_
      rintro e w' ⟨rfl, h1, h2⟩
      have HF := Lib.hid (And.intro h1 h2)
      clear h1 h2
      go_wp2_with fail
      go_ret
      exact ⟨rfl, ⟨_, _, _, by decide, HF.out.1⟩, HF.out.2⟩
    | some x =>
      obtain ⟨n, sz⟩ := x
      have e1 : natS bs (some p) = (n, some (p + sz)) := by unfold natS; simp only [hp]
      rw [e1]
      rw [hp] at HN
      have hs := natP_size hp
      rw [List.length_drop] at hs
      have s0 : ((sz : Int) == 0) = false := by simp; omega
      have s1 : IntKind.i64.wrap ((p : Int) + (sz : Int)) = (p : Int) + (sz : Int) := IntWalk.i64_in _ (by omega)
      have HS : Hid (p + sz ≤ bs.length) := Lib.hid (by omega)
      clear hR hp hpl hcm hmx hs
      go_enter Tryz.func137, Tryz.ntmps137
      go_wp2_with fail
      refine (HN.out).mono ?_
      rintro e w' ⟨rfl, rfl⟩
      dsimp only [Option.getD_some]
      go_wp2_with fail
      go_ret
      have b1 := set_at H.out.blk 1 (.int .i64 ((p : Int) + (sz : Int)))
      have ho := (Only.refl g w).setCell 1 (.int .i64 ((p : Int) + (sz : Int)))
      exact ⟨rfl, ⟨bad, H.out.only ho HS.out (by simpa using b1)⟩, ho⟩
end Go.Proofs.YtmbonngjkgcijaaGreatDoor

namespace Go.Proofs.YtmbonngjkgcijaaGreatDoor
open Go.RowKit Go.Shelf Go.Lib

theorem addr_add (a : Addr) (i j : Nat) : (a.add i).add j = a.add (i + j) := by
  unfold Addr.add
  by_cases hi : i = 0
  · subst hi; simp
  · by_cases hj : j = 0
    · subst hj; simp
    · rw [if_neg hi, if_neg hj, if_neg (by omega)]
      simp [Nat.add_assoc]
set_option maxRecDepth 100000 in
set_option maxHeartbeats 2000000 in
/-- Num. -/
theorem rnum_u {w : World} {g : Nat} {A : Option Addr} {cap : Nat} {bs : List UInt8} {st : Option Nat} (h : RfS w g A cap bs st) :
    Calls Tryz.prog 138 #[.pointer (some ⟨g, 0, none⟩)] w fun e w' => e = .returned (.int .i64 (numS bs st).1) ∧ RfS w' g A cap bs (numS bs st).2 ∧ Only g w w' := by
  have HN := Lib.hid (rnat_u h)
  have hn := natS_le bs st
  unfold numS
  obtain ⟨n, hnn⟩ : ∃ n, (natS bs st).1 = n := ⟨_, rfl⟩
  rw [hnn] at HN hn ⊢
  have HNN := Lib.hid hnn
  clear h hnn
  have q0 : (0 : Int) ≤ (n : Int) := by omega
  have q1 : (n : Int) ≤ 18446744073709551615 := by omega
  by_cases h2 : n % 2 = 1
  · have e : numV n = -1 - (n : Int) / 2 := by unfold numV; rw [if_pos h2]; omega
    rw [e]
    have h2' : (n : Int) % 2 = 1 := by omega
    have q2 : (n : Int) / 2 ≤ 9223372036854775807 := by omega
    have q3 : (0 : Int) ≤ (n : Int) / 2 := by omega
    go_enter Tryz.func138, Tryz.ntmps138
    go_wp2_with fail
    refine (HN.out).mono ?_
    rintro e w1 ⟨rfl, hR, hO⟩
    have HR := Lib.hid hR
    have HO := Lib.hid hO
    clear hR hO
    go_wp2
    go_ret
    exact ⟨rfl, HR.out, HO.out⟩
  · have e : numV n = (n : Int) / 2 := by unfold numV; rw [if_neg h2]; omega
    rw [e]
    have h2' : ¬ (n : Int) % 2 = 1 := by omega
    have q2 : (n : Int) / 2 ≤ 9223372036854775807 := by omega
    have q3 : (0 : Int) ≤ (n : Int) / 2 := by omega
    go_enter Tryz.func138, Tryz.ntmps138
    go_wp2_with fail
    refine (HN.out).mono ?_
    rintro e w1 ⟨rfl, hR, hO⟩
    have HR := Lib.hid hR
    have HO := Lib.hid hO
    clear hR hO
    go_wp2
    go_ret
    exact ⟨rfl, HR.out, HO.out⟩
set_option maxRecDepth 100000 in
set_option maxHeartbeats 2000000 in
/-- End. -/
theorem rend_u {w : World} {g : Nat} {A : Option Addr} {cap : Nat} {bs : List UInt8} {st : Option Nat} (h : RfS w g A cap bs st) :
    Calls Tryz.prog 141 #[.pointer (some ⟨g, 0, none⟩)] w fun e w' => ∃ x : Int, e = .returned (.int .i64 x) ∧ (x == 0) = decide (st = some bs.length) ∧ Only g w w' := by
  cases st with
  | none =>
    obtain ⟨p, e, bad, he, hR⟩ := h
    have c2 : w.cell? ⟨g, 2, none⟩ = some (.int .i64 e) := cell_of hR.blk 2
    have he2 : (e == 0) = false := by simpa using he
    clear hR
    go_enter Tryz.func141, Tryz.ntmps141
    go_wp2_with fail
    go_quiet (fail)
    go_wp2_with fail
    go_ret
    exact ⟨e, rfl, by simpa using he, Only.of_below (below_drewN (Below.refl _ _) _)⟩
  | some p =>
    obtain ⟨bad, hR⟩ := h
    have c2 : w.cell? ⟨g, 2, none⟩ = some (.int .i64 0) := cell_of hR.blk 2
    have c1 : w.cell? ⟨g, 1, none⟩ = some (.int .i64 (p : Int)) := cell_of hR.blk 1
    have c0 : w.cell? ⟨g, 0, none⟩ = some (.slice A bs.length cap) := cell_of hR.blk 0
    have hpl := hR.le
    by_cases hp : p = bs.length
    · have hd : decide ((p : Int) < (bs.length : Int)) = false := by simp; omega
      clear hR
      go_enter Tryz.func141, Tryz.ntmps141
      go_wp2_with fail
      go_quiet (fail)
      go_wp2_with fail
      go_ret
      exact ⟨0, rfl, by simp [hp], Only.of_below (below_drewN (Below.refl _ _) _)⟩
    · have hd : decide ((p : Int) < (bs.length : Int)) = true := by simp; omega
      have HW := Lib.hid (fun k => rf_wrong (hR.below (below_drewN (Below.refl _ _) k)) 6)
      clear hR
      go_enter Tryz.func141, Tryz.ntmps141
      go_wp2_with fail
      go_quiet (fail)
      go_wp2_with fail
      refine (HW.out _).mono ?_
      rintro e w' ⟨rfl, h1, h2⟩
      have d2 : w'.cell? ⟨g, 2, none⟩ = some (.int .i64 6) := cell_of h1.blk 2
      have HF := Lib.hid ((Only.of_below (below_drewN (Below.refl _ _) _)).trans h2)
      clear h1 h2
      go_wp2_with fail
      go_ret
      exact ⟨6, rfl, by simp [hp], HF.out⟩
set_option maxRecDepth 100000 in
set_option maxHeartbeats 4000000 in
/-- Str. -/
theorem rstr_u {w : World} {g : Nat} {A : Option Addr} {cap : Nat} {bs : List UInt8} {st : Option Nat} {most : Nat} (hm : most ≤ 1073741824) (h : RfS w g A cap bs st) :
    Calls Tryz.prog 139 #[.pointer (some ⟨g, 0, none⟩), .int .i64 (most : Int)] w fun e w' => e = .returned (.string (strS most bs st).1) ∧ RfS w' g A cap bs (strS most bs st).2 ∧ Only g w w' := by
  cases st with
  | none =>
    obtain ⟨p, e, bad, he, hR⟩ := h
    have c2 : w.cell? ⟨g, 2, none⟩ = some (.int .i64 e) := cell_of hR.blk 2
    have he2 : (e == 0) = false := by simpa using he
    have H := Lib.hid (show RfS w g A cap bs none from ⟨p, e, bad, he, hR⟩)
    clear hR
    go_enter Tryz.func139, Tryz.ntmps139
    go_wp2_with fail
    go_ret
    exact ⟨rfl, H.out, Only.refl _ _⟩
  | some p =>
    obtain ⟨bad, hR⟩ := h
    have c2 : w.cell? ⟨g, 2, none⟩ = some (.int .i64 0) := cell_of hR.blk 2
    have c1 : w.cell? ⟨g, 1, none⟩ = some (.int .i64 (p : Int)) := cell_of hR.blk 1
    have c0 : w.cell? ⟨g, 0, none⟩ = some (.slice A bs.length cap) := cell_of hR.blk 0
    have f1 := free0 hR.blk 1
    have HN := Lib.hid (rf_nat hR)
    have HW := Lib.hid (fun k e => rf_wrong (hR.below (below_drewN (Below.refl _ _) k)) e)
    have HW0 := Lib.hid (fun e => rf_wrong hR e)
    have H := Lib.hid hR
    have hpl := hR.le
    have hcm := hR.room
    have hmx := hR.max
    unfold maxLen at hmx
    have m0 : ¬ (most : Int) < 0 := by omega
    have m1 : IntKind.u64.wrap (most : Int) = (most : Int) := by rw [IntKind.wrap_u64]; omega
    cases hp : natP (bs.drop p) with
    | none =>
      have e1 : strS most bs (some p) = (⟨#[]⟩, none) := by unfold strS strP; simp only [hp]
      rw [e1]
      rw [hp] at HN
      clear hR hp
      go_enter Tryz.func139, Tryz.ntmps139
      go_wp2_with fail
      refine (HN.out).mono ?_
      rintro e w' ⟨rfl, rfl⟩
      go_wp2_with fail
      refine (HW0.out 6).mono ?_
      rintro e w' ⟨rfl, h1, h2⟩
      have HF := Lib.hid (And.intro h1 h2)
      clear h1 h2
      go_wp2_with fail
      go_ret
      exact ⟨rfl, ⟨_, _, _, by decide, HF.out.1⟩, HF.out.2⟩
    | some x =>
      obtain ⟨n, sz⟩ := x
      rw [hp] at HN
      have hs := natP_size hp
      rw [List.length_drop] at hs
      have hn := (natP_only hp).1
      have s0 : ((sz : Int) == 0) = false := by simp; omega
      have s1 : IntKind.i64.wrap ((p : Int) + (sz : Int)) = (p : Int) + (sz : Int) := IntWalk.i64_in _ (by omega)
      by_cases hlong : most < n
      · have e1 : strS most bs (some p) = (⟨#[]⟩, none) := by
          unfold strS strP; simp only [hp]; rw [if_pos hlong]
        rw [e1]
        have t0 : (most : Int) < (n : Int) := by omega
        clear hR hp
        go_enter Tryz.func139, Tryz.ntmps139
        go_wp2_with fail
        refine (HN.out).mono ?_
        rintro e w' ⟨rfl, rfl⟩
        dsimp only [Option.getD_some]
        go_wp2_with fail
        refine (HW0.out 7).mono ?_
        rintro e w' ⟨rfl, h1, h2⟩
        have HF := Lib.hid (And.intro h1 h2)
        clear h1 h2
        go_wp2_with fail
        go_ret
        exact ⟨rfl, ⟨_, _, _, by decide, HF.out.1⟩, HF.out.2⟩
      · have t0 : ¬ (most : Int) < (n : Int) := by omega
        have t1 : IntKind.i64.wrap ((bs.length : Int) - (p : Int)) = (bs.length : Int) - (p : Int) := IntWalk.i64_in _ (by omega)
        have t2 : IntKind.i64.wrap ((bs.length : Int) - (p : Int) - (sz : Int)) = (bs.length : Int) - (p : Int) - (sz : Int) := IntWalk.i64_in _ (by omega)
        have t3 : IntKind.u64.wrap ((bs.length : Int) - (p : Int) - (sz : Int)) = (bs.length : Int) - (p : Int) - (sz : Int) := by rw [IntKind.wrap_u64]; omega
        by_cases hcut : bs.length < p + sz + n
        · have e1 : strS most bs (some p) = (⟨#[]⟩, none) := by
            unfold strS strP; simp only [hp]; rw [if_neg hlong, if_pos (by rw [List.length_drop]; omega)]
          rw [e1]
          have t4 : (bs.length : Int) - (p : Int) - (sz : Int) < (n : Int) := by omega
          clear hR hp
          go_enter Tryz.func139, Tryz.ntmps139
          go_wp2_with fail
          refine (HN.out).mono ?_
          rintro e w' ⟨rfl, rfl⟩
          dsimp only [Option.getD_some]
          go_wp2_with fail
          go_quiet (fail)
          go_wp2_with fail
          refine (HW.out _ 6).mono ?_
          rintro e w' ⟨rfl, h1, h2⟩
          have HF := Lib.hid (And.intro h1 ((Only.of_below (below_drewN (Below.refl _ _) _)).trans h2))
          clear h1 h2
          go_wp2_with fail
          go_ret
          exact ⟨rfl, ⟨_, _, _, by decide, HF.out.1⟩, HF.out.2⟩
        · have e1 : strS most bs (some p) = (⟨((bs.drop (p + sz)).take n).toArray⟩, some (p + sz + n)) := by
            unfold strS strP; simp only [hp]; rw [if_neg hlong, if_neg (by rw [List.length_drop]; omega)]
            simp [Nat.add_assoc]
          rw [e1]
          have t4 : ¬ (bs.length : Int) - (p : Int) - (sz : Int) < (n : Int) := by omega
          obtain ⟨b0, hb0⟩ : ∃ b, bs[0]? = some b := ⟨_, List.getElem?_eq_getElem (by omega)⟩
          obtain ⟨a, rfl, _, _, _⟩ := hR.byt 0 b0 hb0
          obtain ⟨q, hq⟩ : ∃ q, p + sz = q := ⟨_, rfl⟩
          obtain ⟨E, hE⟩ : ∃ E, q + n = E := ⟨_, rfl⟩
          rw [hq, hE]
          have hcv : Hid (∀ (b : Addr) (c k m : Nat), (n ≠ 0 → b = a.add q) → (convert 54 9 (.slice (some b) n c)).run Tryz.prog ((w.drewN k).drewN m) = .ok (.string ⟨((bs.drop q).take n).toArray⟩) ((w.drewN k).drewN m)) := Lib.hid (by
            intro b c k m ha
            have hln : ((bs.drop q).take n).length = n := by rw [List.length_take, List.length_drop]; omega
            have := run_convert_bytes_back (P := Tryz.prog) ((w.drewN k).drewN m) 54 9 5 b c ((bs.drop q).take n) Tryz.underlying54 Tryz.underlying5 Tryz.underlying9 (fun j hj => by
              rw [hln] at hj
              obtain rfl := ha (by omega)
              have hb : bs[q + j]? = some bs[q + j] := List.getElem?_eq_getElem (by omega)
              obtain ⟨a', e, h1, h2, h3⟩ := hR.byt (q + j) _ hb
              cases e
              rw [addr_add, show ((bs.drop q).take n)[j]'(by rw [hln]; exact hj) = bs[q + j] by simp]
              exact h3)
            rw [hln] at this
            exact this)
          have hmv2 : Hid (∀ k, RfAt ((w.drewN k).setCell ⟨g, 1, none⟩ (.int .i64 (E : Int))) g (some a) cap bs E 0 bad ∧ Only g w ((w.drewN k).setCell ⟨g, 1, none⟩ (.int .i64 (E : Int)))) := Lib.hid (fun k => by
            have ho := (Only.of_below (bt := g) (below_drewN (Below.refl w.heap.size w) k)).setCell 1 (.int .i64 (E : Int))
            have hb : (w.drewN k).heap[g]? = _ := hR.blk
            exact ⟨hR.only ho (by omega) (by simpa using set_at hb 1 (.int .i64 (E : Int))), ho⟩)
          have s2 : IntKind.i64.wrap ((p : Int) + (sz : Int)) = (q : Int) := by rw [s1]; omega
          have t5 : IntKind.i64.wrap (n : Int) = (n : Int) := IntWalk.i64_in _ (by omega)
          have t6 : IntKind.i64.wrap ((q : Int) + (n : Int)) = (E : Int) := by rw [IntWalk.i64_in _ (by omega)]; omega
          have t7 : IntKind.i64.wrap ((sz : Int) + (n : Int)) = (sz : Int) + (n : Int) := IntWalk.i64_in _ (by omega)
          have t8 : IntKind.i64.wrap ((p : Int) + ((sz : Int) + (n : Int))) = (E : Int) := by rw [IntWalk.i64_in _ (by omega)]; omega
          have q12 : E - q = n := by omega
          have q13 : q ≤ E := by omega
          have q14 : (E : Int) ≤ (cap : Int) := by omega
          have q15 : E ≤ cap := by omega
          have q16 : (q : Int) ≤ (E : Int) := by omega
          have q17 : q ≤ cap := by omega
          clear hR hp hb0 s1 hq
          go_enter Tryz.func139, Tryz.ntmps139
          go_wp2_with fail
          refine (HN.out).mono ?_
          rintro e w' ⟨rfl, rfl⟩
          dsimp only [Option.getD_some]
          go_wp2_with fail
          go_quiet (fail)
          go_wp2_with fail
          by_cases hcp : cap = q
          · have hcv' := fun (b : Addr) m => hcv.out b 0 nq m (fun h => absurd (show n = 0 by omega) h)
            have hcv2 : ∀ (b : Addr) m, (convert 54 9 (.slice (some b) n 0)).run Tryz.prog (w.drewN (nq + m)) = .ok (.string ⟨((bs.drop q).take n).toArray⟩) (w.drewN (nq + m)) := fun b m => by
              have := hcv' b m
              rw [World.drewN_drewN] at this
              exact this
            subst hcp
            go_quiet (fail)
            go_wp2_with fail
            go_ret
            obtain ⟨hm1, hm2⟩ := hmv2.out _
            exact ⟨rfl, ⟨bad, hm1⟩, hm2⟩
          · have hcv' := fun m => hcv.out (a.add q) (cap - q) nq m (fun _ => rfl)
            have hcv2 : ∀ m, (convert 54 9 (.slice (some (a.add q)) n (cap - q))).run Tryz.prog (w.drewN (nq + m)) = .ok (.string ⟨((bs.drop q).take n).toArray⟩) (w.drewN (nq + m)) := fun m => by
              have := hcv' m
              rw [World.drewN_drewN] at this
              exact this
            go_quiet (fail)
            go_wp2_with fail
            go_ret
            obtain ⟨hm1, hm2⟩ := hmv2.out _
            exact ⟨rfl, ⟨bad, hm1⟩, hm2⟩
end Go.Proofs.YtmbonngjkgcijaaGreatDoor

namespace Go.Proofs.YtmbonngjkgcijaaGreatDoor
open Go.RowKit Go.Shelf Go.Lib

def opsR (bs : List UInt8) : Nat → List OpV → Option Nat → Option (List OpV × Option Nat)
  | 0, l, st => some (l, st)
  | _ + 1, l, none => some (l, none)
  | k + 1, l, some q => if 1000 < (natS bs (some q)).1 then none else opsR bs k (l ++ [(opS 1000 bs (some q)).1]) (opS 1000 bs (some q)).2
def decOR (bs : List UInt8) : Option (List OpV) := match opsR bs (min (natS bs (some 0)).1 65) [] (natS bs (some 0)).2 with
  | none => none
  | some (l, st) => if st = some bs.length ∧ (natS bs (some 0)).1 ≤ 64 ∧ l.all mayO = true then some l else none
theorem opsR_none {bs : List UInt8} (k : Nat) (l : List OpV) : opsR bs k l none = some (l, none) := by cases k <;> rfl
theorem opsR_only {bs : List UInt8} : ∀ (k : Nat) {l l' : List OpV} {p q : Nat}, opsR bs k l (some p) = some (l', some q) → (∀ o ∈ l', mayO o = true) →
    ∃ t, l' = l ++ t ∧ t.length = k ∧ (∀ o ∈ t, OpIn o) ∧ bs.drop p = t.flatMap opB ++ bs.drop q
  | 0, l, l', p, q, h, _ => by
    obtain ⟨rfl, rfl⟩ : l = l' ∧ p = q := by simpa [opsR] using h
    exact ⟨[], by simp, rfl, fun o h => (by cases h), by simp⟩
  | k + 1, l, l', p, q, h, hm => by
    unfold opsR at h
    split at h
    · cases h
    · obtain ⟨o, st, ho⟩ : ∃ o st, opS 1000 bs (some p) = (o, st) := ⟨_, _, rfl⟩
      rw [ho] at h
      simp only at h
      cases st with
      | none =>
        rw [opsR_none] at h
        cases (Prod.mk.inj (Option.some.inj h)).2
      | some q2 =>
        obtain ⟨t, e1, e2, e3, e4⟩ := opsR_only k h hm
        have hmo := hm o (by rw [e1]; simp)
        obtain ⟨a1, a2⟩ := opS_only (by omega) ho (mayO_kind hmo).2
        refine ⟨o :: t, by rw [e1]; simp, by simp [e2], fun x hx => ?_, ?_⟩
        · rcases List.mem_cons.1 hx with rfl | hx
          · exact a1
          · exact e3 x hx
        · rw [a2, e4, List.flatMap_cons, List.append_assoc]
theorem opsR_back {bs : List UInt8} : ∀ (t : List OpV) {l : List OpV} {p : Nat} {r : List UInt8}, (∀ o ∈ t, mayO o = true ∧ OpIn o) → bs.drop p = t.flatMap opB ++ r →
    opsR bs t.length l (some p) = some (l ++ t, some (p + (t.flatMap opB).length))
  | [], l, p, r, _, h => by simp [opsR]
  | o :: t, l, p, r, hok, h => by
    rw [List.flatMap_cons, List.append_assoc] at h
    obtain ⟨hm, hi⟩ := hok o (by simp)
    obtain ⟨e1, e2⟩ := opS_back (cut := 1000) (by omega) hm hi h
    have f1 := opsR_back t (l := l ++ [o]) (fun x hx => hok x (by simp [hx])) e2
    have hk := mayO_kind hm
    have hn : ¬ 1000 < (natS bs (some p)).1 := by
      unfold opB at h
      simp only [List.append_assoc] at h
      rw [(natS_back (by omega) h).1]
      simp only
      omega
    rw [List.length_cons]
    unfold opsR
    rw [if_neg hn, e1]
    simp only
    rw [f1, List.flatMap_cons, List.length_append]
    simp [Nat.add_assoc]
theorem decOR_only {bs : List UInt8} {l : List OpV} (h : decOR bs = some l) : bs = opsB l ∧ l.length ≤ 64 ∧ ∀ o ∈ l, mayO o = true ∧ OpIn o := by
  unfold decOR at h
  obtain ⟨n, st, hn⟩ : ∃ n st, natS bs (some 0) = (n, st) := ⟨_, _, rfl⟩
  rw [hn] at h
  simp only at h
  split at h
  · cases h
  · rename_i l2 st2 ho
    split at h
    · rename_i hst
      obtain ⟨rfl, h64, hm⟩ := hst
      obtain rfl := Option.some.inj h
      have hm := List.all_eq_true.1 hm
      cases st with
      | none => rw [opsR_none] at ho; cases (Prod.mk.inj (Option.some.inj ho)).2
      | some q =>
        obtain ⟨a1, a2, _⟩ := natS_only hn
        obtain ⟨t, e1, e2, e3, e4⟩ := opsR_only _ ho hm
        rw [List.nil_append] at e1
        subst e1
        refine ⟨?_, by omega, fun o ho => ⟨hm o ho, e3 o ho⟩⟩
        have : bs.drop 0 = natB n ++ l2.flatMap opB := by rw [a2, e4]; simp
        unfold opsB
        rw [e2, show min n 65 = n by omega]
        simpa using this
    · cases h
theorem decOR_back {l : List OpV} (hl : l.length ≤ 64) (h : ∀ o ∈ l, mayO o = true ∧ OpIn o) : decOR (opsB l) = some l := by
  have h0 : (opsB l).drop 0 = natB l.length ++ l.flatMap opB := by simp [opsB]
  obtain ⟨e1, e2⟩ := natS_back (by omega) h0
  have f1 := opsR_back l (l := []) h (r := []) (by rw [e2]; simp)
  unfold decOR
  rw [e1]
  simp only
  rw [show min l.length 65 = l.length by omega, f1]
  simp only [List.nil_append]
  rw [if_pos ⟨by unfold opsB; rw [List.length_append]; simp, hl, List.all_eq_true.2 fun o ho => (h o ho).1⟩]
theorem decO_eq (bs : List UInt8) : decOR bs = decO bs := by
  cases h : decO bs with
  | some P =>
    obtain ⟨rfl, h1, h2⟩ := decO_only h
    exact decOR_back h1 h2
  | none =>
    cases h2 : decOR bs with
    | none => rfl
    | some P =>
      obtain ⟨rfl, h1, h3⟩ := decOR_only h2
      rw [decO_back h1 h3] at h
      cases h
/-- A number that is too great is cut down, the document's way. -/
def cutR (n : Nat) : Int := ((min n 1073741824 : Nat) : Int)
def msgR : List Nat → List Nat → List OpV → MsgV
  | [a0, a1, a2, a3, a4, a5, a6, a7, a8, _], ns, l => ⟨cutR a0, cutR a1, cutR a2, cutR a3, cutR a4, cutR a5, cutR a6, cutR a7, (a8 : Int), ns.map numV, l⟩
  | _, _, _ => ⟨0, 0, 0, 0, 0, 0, 0, 0, 0, [], []⟩
/-- What the document's own way reads of a body; it holds it against the bytes then. -/
def decRB (bs : List UInt8) : Option MsgV :=
  match decO (strS 400 bs (hdS bs (manyS (hdS bs 10 (some 0)).1) (hdS bs 10 (some 0)).2).2).1.data.toList with
  | none => none
  | some l => if (strS 400 bs (hdS bs (manyS (hdS bs 10 (some 0)).1) (hdS bs 10 (some 0)).2).2).2 = some bs.length ∧ ((hdS bs 10 (some 0)).1[9]?.getD 0) ≤ 8 ∧ ((hdS bs 10 (some 0)).1[8]?.getD 0) ≤ 9223372036854775807 then
      some (msgR (hdS bs 10 (some 0)).1 (hdS bs (manyS (hdS bs 10 (some 0)).1) (hdS bs 10 (some 0)).2).1 l) else none
theorem decRB_back {m : MsgV} (h : mayM m = true) (hi : MsgIn m) : decRB (bodyM m) = some m := by
  have F := mayM_fits h
  obtain ⟨k0, k1, k2, k3, k4, k5, k6, k7, k8, k9, k10, k11⟩ := F
  have hops := opsB_le k10 (fun o ho => ⟨k11 o ho, hi.ops o ho⟩)
  have h0 : (bodyM m).drop 0 = [m.kd.toNat, m.fr.toNat, m.tt.toNat, m.g.toNat, m.nd.toNat, m.tr.toNat, m.lw.toNat, m.co.toNat, m.ti.toNat, m.tl.length].flatMap natB ++ ((m.tl.map numN).flatMap natB ++ (strB ⟨(opsB m.os).toArray⟩ ++ [])) := by
    unfold bodyM natsB numsB
    simp only [List.flatMap_cons, List.flatMap_nil, List.drop_zero, List.append_nil, List.append_assoc, List.flatMap_map]
  obtain ⟨e1, e2⟩ := hdS_back _ (fun x hx => by
    simp only [List.mem_cons, List.not_mem_nil, or_false] at hx
    omega) h0
  obtain ⟨f1, f2⟩ := hdS_back (m.tl.map numN) (fun x hx => by
    obtain ⟨y, hy, rfl⟩ := List.mem_map.1 hx
    exact numN_le' (hi.told y hy).1 (hi.told y hy).2) e2
  rw [List.length_map] at f1
  obtain ⟨g1, g2⟩ := strS_back (most := 400) (by rw [size_mk]; omega) (by omega) f2
  have hlen : ([m.kd.toNat, m.fr.toNat, m.tt.toNat, m.g.toNat, m.nd.toNat, m.tr.toNat, m.lw.toNat, m.co.toNat, m.ti.toNat, m.tl.length].flatMap natB).length + ((m.tl.map numN).flatMap natB).length + (strB ⟨(opsB m.os).toArray⟩).length = (bodyM m).length := by
    have := congrArg List.length h0
    simp only [List.length_append, List.drop_zero, List.length_nil] at this
    omega
  rw [Nat.zero_add] at e1 e2 f1 f2 g1
  rw [hlen] at g1
  have hmany : manyS [m.kd.toNat, m.fr.toNat, m.tt.toNat, m.g.toNat, m.nd.toNat, m.tr.toNat, m.lw.toNat, m.co.toNat, m.ti.toNat, m.tl.length] = m.tl.length := by
    show min m.tl.length 9 = m.tl.length
    omega
  have hof : msgR [m.kd.toNat, m.fr.toNat, m.tt.toNat, m.g.toNat, m.nd.toNat, m.tr.toNat, m.lw.toNat, m.co.toNat, m.ti.toNat, m.tl.length] (m.tl.map numN) m.os = m := by
    have e : (m.tl.map numN).map numV = m.tl := by
      rw [List.map_map]
      conv => rhs; rw [← List.map_id m.tl]
      apply List.map_congr_left
      intro x _
      simp [numV_numN]
    have c : ∀ x : Int, 0 ≤ x → x ≤ 1048577 → cutR x.toNat = x := fun x h1 h2 => by unfold cutR; omega
    have w : ((m.ti.toNat : Nat) : Int) = m.ti := by omega
    simp only [msgR]
    rw [e, c m.kd (by omega) (by omega), c m.fr (by omega) (by omega), c m.tt (by omega) (by omega), c m.g (by omega) (by omega), c m.nd (by omega) (by omega), c m.tr (by omega) (by omega), c m.lw (by omega) (by omega), c m.co (by omega) (by omega), w]
  unfold decRB
  have e1' : hdS (bodyM m) 10 (some 0) = _ := e1
  rw [e1']
  simp only
  rw [hmany, f1]
  simp only
  rw [g1]
  simp only
  rw [decO_back (by omega) (fun o ho => ⟨k11 o ho, hi.ops o ho⟩)]
  simp only
  have b8 : (([m.kd.toNat, m.fr.toNat, m.tt.toNat, m.g.toNat, m.nd.toNat, m.tr.toNat, m.lw.toNat, m.co.toNat, m.ti.toNat, m.tl.length])[8]?.getD 0) ≤ 9223372036854775807 := by
    show m.ti.toNat ≤ _
    omega
  rw [hof, if_pos ⟨trivial, k9, b8⟩]
/-- The document's own Decode. -/
def decR (bs : List UInt8) : Option MsgV := if firstP bs ≠ 0 ∧ firstP bs = bs.length then match decRB (bodyP bs) with
    | none => none
    | some m => if mayM m = true ∧ encM m = bs then some m else none
  else none
end Go.Proofs.YtmbonngjkgcijaaGreatDoor

namespace Go.Proofs.YtmbonngjkgcijaaGreatDoor
open Go.RowKit Go.Shelf

theorem RfS.cell2 {w : World} {g : Nat} {A : Option Addr} {cap : Nat} {bs : List UInt8} {st : Option Nat} (h : RfS w g A cap bs st) : ∃ e : Int, w.cell? ⟨g, 2, none⟩ = some (.int .i64 e) ∧ (e == 0) = st.isSome := by
  cases st with
  | none =>
    obtain ⟨p, e, bad, h1, h2⟩ := h
    exact ⟨e, cell_of h2.blk 2, by simpa using h1⟩
  | some p =>
    obtain ⟨bad, h2⟩ := h
    exact ⟨0, cell_of h2.blk 2, rfl⟩
theorem RfS.adr {w : World} {g : Nat} {A : Option Addr} {cap : Nat} {bs : List UInt8} {st : Option Nat} (h : RfS w g A cap bs st) : ∀ a, A = some a → bs ≠ [] → a.block < w.heap.size := by
  have key : ∀ {p e bad}, RfAt w g A cap bs p e bad → ∀ a, A = some a → bs ≠ [] → a.block < w.heap.size := fun {p e bad} h a ha hb => by
    have h0 : 0 < bs.length := List.length_pos_iff.2 hb
    obtain ⟨a', h1, h2, _⟩ := h.byt 0 _ (List.getElem?_eq_getElem h0)
    rw [h1] at ha
    cases ha
    exact h2
  cases st with
  | none =>
    obtain ⟨p, e, bad, h1, h2⟩ := h
    exact key h2
  | some p =>
    obtain ⟨bad, h2⟩ := h
    exact key h2
set_option maxRecDepth 100000 in
set_option maxHeartbeats 1000000 in
theorem rsmall_u {w : World} {g : Nat} {A : Option Addr} {cap : Nat} {bs : List UInt8} {st : Option Nat} (h : RfS w g A cap bs st) :
    Calls Tryz.prog 136 #[.pointer (some ⟨g, 0, none⟩)] w fun e w' => e = .returned (.int .i64 (cutR (natS bs st).1)) ∧ RfS w' g A cap bs (natS bs st).2 ∧ Only g w w' := by
  have HN := Lib.hid (rnat_u h)
  obtain ⟨n, s1, hn⟩ : ∃ n s, natS bs st = (n, s) := ⟨_, _, rfl⟩
  rw [hn] at HN ⊢
  simp only at HN ⊢
  clear h hn
  by_cases hc : 1073741824 < n
  · have hcI : (1073741824 : Int) < (n : Int) := by omega
    have HE : Hid (cutR n = 1073741824) := Lib.hid (by unfold cutR; omega)
    go_enter Tryz.func136, Tryz.ntmps136
    go_wp2_with fail
    refine (HN.out).mono ?_
    rintro e w1 ⟨rfl, h1, h2⟩
    have H := Lib.hid (And.intro h1 h2)
    clear h1 h2
    go_wp2_with fail
    go_ret
    exact ⟨by rw [HE.out]; rfl, H.out.1, H.out.2⟩
  · have hcI : ¬ (1073741824 : Int) < (n : Int) := by omega
    have HE : Hid (cutR n = (n : Int)) := Lib.hid (by unfold cutR; omega)
    have hw : IntKind.i64.wrap (n : Int) = (n : Int) := by rw [IntWalk.i64_in _ (by omega)]
    go_enter Tryz.func136, Tryz.ntmps136
    go_wp2_with fail
    refine (HN.out).mono ?_
    rintro e w1 ⟨rfl, h1, h2⟩
    have H := Lib.hid (And.intro h1 h2)
    clear h1 h2
    go_wp2_with fail
    go_ret
    exact ⟨by rw [HE.out]; rfl, H.out.1, H.out.2⟩
end Go.Proofs.YtmbonngjkgcijaaGreatDoor
