/- The reader of package octet, where no number is there. -/
import Derived.Test.YtakdhhapckcnaaaDoorOctE
set_option linter.unusedSimpArgs false
set_option linter.unusedVariables false
set_option linter.unnecessarySimpa false
namespace Go.Proofs.YtakdhhapckcnaaaDoor
open Go.RowKit

set_option maxRecDepth 100000 in
set_option maxHeartbeats 1000000 in
theorem nat_empty {w : World} {a : Option Addr} {cap : Nat} : Calls Tryd.prog 72 #[.slice a 0 cap] w fun e w' => e = .returned (.tuple #[.int .u64 0, .int .i64 0, .bool false]) ∧ w' = w := by
  go_enter Tryd.func72, Tryd.ntmps72
  go_wp2
  go_ret3
  exact ⟨rfl, rfl⟩
set_option maxRecDepth 100000 in
set_option maxHeartbeats 1000000 in
theorem nat_big {w : World} {gb o cap m : Nat} {k : Int} (hk : 8 < k) (hc : m + 1 ≤ cap) (hcell : w.cell? ⟨gb, o, none⟩ = some (.int .u8 k)) : Calls Tryd.prog 72 #[.slice (some ⟨gb, o, none⟩) (m + 1) cap] w fun e w' => e = .returned (.tuple #[.int .u64 0, .int .i64 0, .bool false]) ∧ w' = w := by
  go_enter Tryd.func72, Tryd.ntmps72
  go_wp2
  go_ret3
  exact ⟨rfl, rfl⟩
set_option maxRecDepth 100000 in
set_option maxHeartbeats 1000000 in
theorem nat_short {w : World} {gb o cap m k : Nat} (hk : k ≤ 8) (hmk : m < k) (hc : m + 1 ≤ cap) (hcell : w.cell? ⟨gb, o, none⟩ = some (.int .u8 (k : Int))) : Calls Tryd.prog 72 #[.slice (some ⟨gb, o, none⟩) (m + 1) cap] w fun e w' => e = .returned (.tuple #[.int .u64 0, .int .i64 0, .bool false]) ∧ w' = w := by
  have p2 : (((m : Int) + 1) == 0) = false := beq_eq_false_iff_ne.2 (by omega)
  have p3 : decide ((m : Int) + 1 < 1 + (k : Int)) = true := by simp; omega
  have p7 : decide (8 < (k : Int)) = false := by simp; omega
  have p9 : (k : Int) ≤ 8 := by omega
  have p10 : (0 : Int) ≤ (k : Int) := by omega
  go_enter Tryd.func72, Tryd.ntmps72
  go_wp2
  go_ret3
  exact ⟨rfl, rfl⟩
set_option maxRecDepth 100000 in
set_option maxHeartbeats 1000000 in
theorem nat_lead {w : World} {gb o cap m k : Nat} (hk : k ≤ 8) (hk1 : 1 ≤ k) (hmk : k ≤ m) (hc : m + 1 ≤ cap) (hcell : w.cell? ⟨gb, o, none⟩ = some (.int .u8 (k : Int))) (hc1 : w.cell? ⟨gb, o + 1, none⟩ = some (.int .u8 0)) : Calls Tryd.prog 72 #[.slice (some ⟨gb, o, none⟩) (m + 1) cap] w fun e w' => e = .returned (.tuple #[.int .u64 0, .int .i64 0, .bool false]) ∧ w' = w := by
  have p2 : (((m : Int) + 1) == 0) = false := beq_eq_false_iff_ne.2 (by omega)
  have p3 : decide ((m : Int) + 1 < 1 + (k : Int)) = false := by simp; omega
  have p7 : decide (8 < (k : Int)) = false := by simp; omega
  have p8 : decide (1 < 1 + (k : Int)) = true := by simp; omega
  have p9 : (k : Int) ≤ 8 := by omega
  have p10 : (1 : Int) ≤ (k : Int) := by omega
  have p11 : (1 : Int) < (m : Int) + 1 := by omega
  go_enter Tryd.func72, Tryd.ntmps72
  go_wp2
  go_ret3
  exact ⟨rfl, rfl⟩
theorem nat_none {w : World} {a : Option Addr} {N cap : Nat} {l : List UInt8} (hl : l.length = N) (hc : N ≤ cap) (hcell : l ≠ [] → ∃ gb o, a = some ⟨gb, o, none⟩ ∧ ∀ i b, l[i]? = some b → w.cell? ⟨gb, o + i, none⟩ = some (.int .u8 (b.toNat : Int))) (hp : natP l = none) :
    Calls Tryd.prog 72 #[.slice a N cap] w fun e w' => e = .returned (.tuple #[.int .u64 0, .int .i64 0, .bool false]) ∧ w' = w := by
  subst hl
  cases l with
  | nil => exact nat_empty
  | cons k r =>
    obtain ⟨gb, o, rfl, hcl⟩ := hcell (by simp)
    have h0 := hcl 0 k rfl
    rw [Nat.add_zero] at h0
    rw [natP] at hp
    split at hp
    · exact nat_big (m := r.length) (k := (k.toNat : Int)) (by omega) hc h0
    · split at hp
      · exact nat_short (m := r.length) (k := k.toNat) (by omega) (by omega) hc h0
      · split at hp
        · rename_i h8 hr hz
          have hx : r[0]? = some 0 := hz.2
          exact nat_lead (m := r.length) (k := k.toNat) (by omega) (by omega) (by omega) hc h0 (by simpa using hcl 1 0 (by simpa using hx))
        · cases hp
end Go.Proofs.YtakdhhapckcnaaaDoor
