/- The tape: what a loss of power leaves of a segment. -/
import Derived.Test.YtnegnokielmgkaaGreatDoorZTapK
import Derived.Deep.RegionHeld
set_option linter.unusedSimpArgs false
set_option linter.unusedVariables false
set_option linter.unnecessarySimpa false
namespace Go.Proofs.YtnegnokielmgkaaGreatDoor
open Go.RowKit

/-- How many bytes last. -/
def lastN (b : List UInt8) (s : Nat) (k : Int) : Nat := s + min k.toNat (b.length - s)
theorem bis_upto {w : World} {A : Option Addr} {n cap : Nat} {l : List UInt8} (h : BIs w (.slice A n cap) l) (k : Nat) (hk : k ≤ l.length) : BIs w (.slice A k cap) (l.take k) := by
  obtain ⟨A', c', e, h1, h2, h3⟩ := h
  cases e
  refine ⟨A, cap, by rw [List.length_take, Nat.min_eq_left hk], by rw [List.length_take]; omega, h2, fun i b hi => ?_⟩
  rw [List.getElem?_take] at hi
  split at hi
  · exact h3 i b hi
  · cases hi
set_option maxRecDepth 100000 in
set_option maxHeartbeats 2000000 in
theorem lasting_some {w : World} {e : Ent} {g cap : Nat} (hs : SegAt w e) (ev : e.v = .slice (some ⟨g, 0, none⟩) e.b.length cap) (hcap : e.b.length ≤ cap) (hmax : cap ≤ maxLen) (hu : e.b.length ≤ 1048576) (k : Int) (hk0 : -9223372036854775808 ≤ k) (hk1 : k ≤ 9223372036854775807) :
    Calls Tryz.prog 50 #[.pointer (some ⟨e.sb, 0, none⟩), .int .i64 k] w fun x w' => ∃ v, x = .returned v ∧ OwnBy w' w.heap.size v (e.b.take (lastN e.b e.s k)) ∧ Below w.heap.size w w' := by
  have h0 := cell_of hs.head 0
  have h1 := cell_of hs.head 1
  replace h0 : w.cell? ⟨e.sb, 0, none⟩ = some (.slice (some ⟨g, 0, none⟩) e.b.length cap) := by rw [h0, ← ev]; rfl
  replace h1 : w.cell? ⟨e.sb, 1, none⟩ = some (.int .i64 (e.s : Int)) := h1
  have hbis : BIs w (.slice (some ⟨g, 0, none⟩) e.b.length cap) e.b := by rw [← ev]; exact hs.row.bis
  have hle := hs.le
  have hlt := heap_lt hs.head
  have HC := Lib.hid (fun W (hW : Below w.heap.size w W) => And.intro ((hW.cell (p := ⟨e.sb, 0, none⟩) hlt).trans h0) ((hW.cell (p := ⟨e.sb, 1, none⟩) hlt).trans h1))
  have HCL : Hid (∀ m W, m ≤ e.b.length → Below w.heap.size w W → Calls Tryz.prog 55 #[.slice (some ⟨g, 0, none⟩) m cap] W fun x w' => ∃ v, x = .returned v ∧ (OwnBy w' w.heap.size v (e.b.take m) ∧ Below w.heap.size w w') ∧ w'.cell? ⟨e.sb, 0, none⟩ = some (.slice (some ⟨g, 0, none⟩) e.b.length cap) ∧ w'.cell? ⟨e.sb, 1, none⟩ = some (.int .i64 (e.s : Int))) := fun m W hm hW =>
    (clone_any (bis_upto (hbis.below hW) m hm) (by rw [List.length_take]; omega)).mono fun x w' ⟨v, h1, h2, h3⟩ => ⟨v, h1, ⟨h2.lower hW.size, hW.trans (h3.mono hW.size)⟩, HC.out _ (hW.trans (h3.mono hW.size))⟩
  unfold maxLen at hmax
  have hw1 : IntKind.i64.wrap ((e.b.length : Int) - (e.s : Int)) = (e.b.length : Int) - (e.s : Int) := IntWalk.i64_in _ (by omega)
  have p1 : (e.b.length : Int) ≤ 1048576 := by omega
  have p2 : (e.s : Int) ≤ (e.b.length : Int) := by omega
  have p3 : e.b.length ≤ cap := hcap
  unfold lastN
  clear hs ev hbis
  generalize e.b.length = n at *
  generalize e.s = s at *
  have t1 : ¬ (n : Int) < (s : Int) := by omega
  have t2 : ¬ (n : Int) - (s : Int) < 0 := by omega
  by_cases hk : k < 0
  · have HM := Lib.hid (fun W => HCL.out s W (by omega))
    have e1 : s + min k.toNat (n - s) = s := by omega
    rw [e1]
    have q3 : s ≤ cap := by omega
    have q4 : (s : Int) ≤ (cap : Int) := by omega
    have q6 : IntKind.i64.wrap (s : Int) = (s : Int) := IntWalk.i64_in _ (by omega)
    have q7 : (0 : Int) ≤ (s : Int) := by omega
    clear hk0 hk1 e1
    go_enter Tryz.func50, Tryz.ntmps50
    go_wp2_with fail
    go_region
    go_wp2_with fail
    go_region_held (fun W => W.cell? ⟨e.sb, 0, none⟩ = some (.slice (some ⟨g, 0, none⟩) n cap) ∧ W.cell? ⟨e.sb, 1, none⟩ = some (.int .i64 (s : Int))) ((first | go_keep | assumption | (exact ⟨by assumption, by assumption⟩))) (first | (go_at_call 55; refine (HM.out _ (below_drew (below_drew (Below.refl _ _)))).mono ?_; rintro x w1 ⟨v1, rfl, ho, hc0, hc1⟩))
    all_goals
      go_wp2
      go_ret
      exact ⟨_, rfl, by assumption⟩
  · obtain ⟨K, rfl⟩ : ∃ K : Nat, k = (K : Int) := ⟨k.toNat, by omega⟩
    by_cases hK : K ≤ n - s
    · have HM := Lib.hid (fun W => HCL.out (s + K) W (by omega))
      have e1 : s + min (K : Int).toNat (n - s) = s + K := by omega
      rw [e1]
      have t3 : ¬ (n : Int) - (s : Int) < (K : Int) := by omega
      have q0 : IntKind.i64.wrap ((s : Int) + (K : Int)) = (s : Int) + (K : Int) := IntWalk.i64_in _ (by omega)
      have q1 : (0 : Int) ≤ (s : Int) + (K : Int) := by omega
      have q2 : (s : Int) + (K : Int) ≤ (cap : Int) := by omega
      have q3 : ((s : Int) + (K : Int)).toNat = s + K := by omega
      have q5 : s + K ≤ cap := by omega
      clear hk0 hk1 e1 hK
      go_enter Tryz.func50, Tryz.ntmps50
      go_wp2_with fail
      go_region
      go_wp2_with fail
      go_region_held (fun W => W.cell? ⟨e.sb, 0, none⟩ = some (.slice (some ⟨g, 0, none⟩) n cap) ∧ W.cell? ⟨e.sb, 1, none⟩ = some (.int .i64 (s : Int))) ((first | go_keep | assumption | (exact ⟨by assumption, by assumption⟩))) (first | (go_at_call 55; refine (HM.out _ (below_drew (below_drew (Below.refl _ _)))).mono ?_; rintro x w1 ⟨v1, rfl, ho, hc0, hc1⟩))
      all_goals
        go_wp2
        go_ret
        exact ⟨_, rfl, by assumption⟩
    · have HM := Lib.hid (fun W => HCL.out n W (by omega))
      have e1 : s + min (K : Int).toNat (n - s) = n := by omega
      rw [e1]
      have t3 : (n : Int) - (s : Int) < (K : Int) := by omega
      have q0 : IntKind.i64.wrap ((s : Int) + ((n : Int) - (s : Int))) = (n : Int) := by rw [show (s : Int) + ((n : Int) - (s : Int)) = (n : Int) from by omega]; exact IntWalk.i64_in _ (by omega)
      have q2 : (n : Int) ≤ (cap : Int) := by omega
      clear hk0 hk1 e1 hK
      go_enter Tryz.func50, Tryz.ntmps50
      go_wp2_with fail
      go_region
      go_wp2_with fail
      go_region_held (fun W => W.cell? ⟨e.sb, 0, none⟩ = some (.slice (some ⟨g, 0, none⟩) n cap) ∧ W.cell? ⟨e.sb, 1, none⟩ = some (.int .i64 (s : Int))) ((first | go_keep | assumption | (exact ⟨by assumption, by assumption⟩))) (first | (go_at_call 55; refine (HM.out _ (below_drew (below_drew (Below.refl _ _)))).mono ?_; rintro x w1 ⟨v1, rfl, ho, hc0, hc1⟩))
      all_goals
        go_wp2
        go_ret
        exact ⟨_, rfl, by assumption⟩
set_option maxRecDepth 100000 in
set_option maxHeartbeats 2000000 in
theorem lasting_nil {w : World} {e : Ent} (hs : SegAt w e) (ev : e.v = .slice none 0 0) (hb : e.b = []) (k : Int) :
    Calls Tryz.prog 50 #[.pointer (some ⟨e.sb, 0, none⟩), .int .i64 k] w fun x w' => ∃ v, x = .returned v ∧ OwnBy w' w.heap.size v (e.b.take (lastN e.b e.s k)) ∧ Below w.heap.size w w' := by
  have h0 := cell_of hs.head 0
  have h1 := cell_of hs.head 1
  have hs0 : e.s = 0 := by have := hs.le; rw [hb] at this; exact Nat.le_zero.1 this
  replace h0 : w.cell? ⟨e.sb, 0, none⟩ = some (.slice none 0 0) := by rw [h0, ← ev]; rfl
  replace h1 : w.cell? ⟨e.sb, 1, none⟩ = some (.int .i64 0) := by rw [h1, hs0]; rfl
  have hlt := heap_lt hs.head
  have HC := Lib.hid (fun W (hW : Below w.heap.size w W) => And.intro ((hW.cell (p := ⟨e.sb, 0, none⟩) hlt).trans h0) ((hW.cell (p := ⟨e.sb, 1, none⟩) hlt).trans h1))
  have HM : Hid (∀ W, Below w.heap.size w W → Calls Tryz.prog 55 #[.slice none 0 0] W fun x w' => ∃ v, x = .returned v ∧ (OwnBy w' w.heap.size v [] ∧ Below w.heap.size w w') ∧ w'.cell? ⟨e.sb, 0, none⟩ = some (.slice none 0 0) ∧ w'.cell? ⟨e.sb, 1, none⟩ = some (.int .i64 0)) := fun W hW =>
    (clone_any (bis_empty none 0 (by unfold maxLen; omega)) (by simp)).mono fun x w' ⟨v, h1, h2, h3⟩ => ⟨v, h1, ⟨h2.lower hW.size, hW.trans (h3.mono hW.size)⟩, HC.out _ (hW.trans (h3.mono hW.size))⟩
  rw [hb, List.take_nil]
  clear hs ev hs0 hb
  by_cases hk : k < 0
  · go_enter Tryz.func50, Tryz.ntmps50
    go_wp2_with fail
    go_region
    go_wp2_with fail
    go_region_held (fun W => W.cell? ⟨e.sb, 0, none⟩ = some (.slice none 0 0) ∧ W.cell? ⟨e.sb, 1, none⟩ = some (.int .i64 0)) ((first | go_keep | assumption | (exact ⟨by assumption, by assumption⟩))) (first | (go_at_call 55; refine (HM.out _ (below_drew (below_drew (Below.refl _ _)))).mono ?_; rintro x w1 ⟨v1, rfl, ho, hc0, hc1⟩))
    all_goals
      go_wp2
      go_ret
      exact ⟨_, rfl, by assumption⟩
  · by_cases hK : 0 < k
    · go_enter Tryz.func50, Tryz.ntmps50
      go_wp2_with fail
      go_region
      go_wp2_with fail
      go_region_held (fun W => W.cell? ⟨e.sb, 0, none⟩ = some (.slice none 0 0) ∧ W.cell? ⟨e.sb, 1, none⟩ = some (.int .i64 0)) ((first | go_keep | assumption | (exact ⟨by assumption, by assumption⟩))) (first | (go_at_call 55; refine (HM.out _ (below_drew (below_drew (Below.refl _ _)))).mono ?_; rintro x w1 ⟨v1, rfl, ho, hc0, hc1⟩))
      all_goals
        go_wp2
        go_ret
        exact ⟨_, rfl, by assumption⟩
    · obtain rfl : k = 0 := by omega
      go_enter Tryz.func50, Tryz.ntmps50
      go_wp2_with fail
      go_region
      go_wp2_with fail
      go_region_held (fun W => W.cell? ⟨e.sb, 0, none⟩ = some (.slice none 0 0) ∧ W.cell? ⟨e.sb, 1, none⟩ = some (.int .i64 0)) ((first | go_keep | assumption | (exact ⟨by assumption, by assumption⟩))) (first | (go_at_call 55; refine (HM.out _ (below_drew (below_drew (Below.refl _ _)))).mono ?_; rintro x w1 ⟨v1, rfl, ho, hc0, hc1⟩))
      all_goals
        go_wp2
        go_ret
        exact ⟨_, rfl, by assumption⟩
theorem lasting_any {w : World} {e : Ent} (hs : SegAt w e) (hu : e.b.length ≤ 1048576) (k : Int) (hk0 : -9223372036854775808 ≤ k) (hk1 : k ≤ 9223372036854775807) :
    Calls Tryz.prog 50 #[.pointer (some ⟨e.sb, 0, none⟩), .int .i64 k] w fun x w' => ∃ v, x = .returned v ∧ OwnBy w' w.heap.size v (e.b.take (lastN e.b e.s k)) ∧ Below w.heap.size w w' := by
  rcases hs.row with ⟨h1, h2, _⟩ | ⟨g, cap, h1, h2, h3, h4⟩
  · exact lasting_nil hs h1 (List.eq_nil_of_length_eq_zero h2) k
  · exact lasting_some hs h1 h3 h4.max hu k hk0 hk1
end Go.Proofs.YtnegnokielmgkaaGreatDoor
