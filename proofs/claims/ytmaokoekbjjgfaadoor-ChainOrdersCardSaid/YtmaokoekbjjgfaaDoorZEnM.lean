/- fault.At, fault.In, fault.Bound, and the functions wrapped and made of the law file, at every chain and links. -/
import Derived.Test.YtmaokoekbjjgfaaDoorZEnE
set_option linter.unusedSimpArgs false
set_option linter.unusedVariables false
namespace Go.Proofs.YtmaokoekbjjgfaaDoor
open Go.RowKit
set_option maxHeartbeats 400000 in
theorem new_zero (w : World) : Calls Tryd.prog 41 #[.int .i64 0] w fun e w' => e = .returned .nilIface ∧ w = w' := by
  go_enter Tryd.func41, Tryd.ntmps41
  go_wp2
  go_ret
  exact ⟨rfl, rfl⟩
set_option maxHeartbeats 400000 in
theorem new_num (n : Int) (hn : n ≠ 0) (w : World) : Calls Tryd.prog 41 #[.int .i64 n] w fun e w' => e = .returned (.iface 85 (.agg #[.int .i64 n])) ∧ w = w' := by
  have h0 : (n == 0) = false := beq_eq_false_iff_ne.2 hn
  go_enter Tryd.func41, Tryd.ntmps41
  go_wp2
  go_ret
  exact ⟨rfl, rfl⟩

def onto (k : Lk) : List Lk → List Lk
  | [] => []
  | k' :: r => k :: k' :: r
def newL (e : Int) : List Lk := if e = 0 then [] else [.num e]
/-! New, At, In, Bound -/
set_option maxHeartbeats 400000 in
theorem at_nil (p : Int) (w : World) : Calls Tryd.prog 40 #[.int .i64 p, .nilIface] w fun e w' => e = .returned .nilIface ∧ w = w' := by
  go_enter Tryd.func40, Tryd.ntmps40
  go_wp2
  go_ret
  exact ⟨rfl, rfl⟩
set_option maxHeartbeats 400000 in
theorem at_some (p : Int) (t : TypeId) (u : Value) (w : World) : Calls Tryd.prog 40 #[.int .i64 p, .iface t u] w fun e w' => e = .returned (.iface 92 (.pointer (some ⟨w.heap.size, 0, none⟩))) ∧ w.alloc (.cells #[.iface t u, .int .i64 p] 96) = w' := by
  go_enter Tryd.func40, Tryd.ntmps40
  go_wp2
  go_ret
  exact ⟨rfl, rfl⟩
set_option maxHeartbeats 400000 in
theorem bound_nil (l g : Int) (w : World) : Calls Tryd.prog 43 #[.int .i64 l, .int .i64 g, .nilIface] w fun e w' => e = .returned .nilIface ∧ w = w' := by
  go_enter Tryd.func43, Tryd.ntmps43
  go_wp2
  go_ret
  exact ⟨rfl, rfl⟩
set_option maxHeartbeats 400000 in
theorem bound_some (l g : Int) (t : TypeId) (u : Value) (w : World) : Calls Tryd.prog 43 #[.int .i64 l, .int .i64 g, .iface t u] w fun e w' => e = .returned (.iface 98 (.pointer (some ⟨w.heap.size, 0, none⟩))) ∧ w.alloc (.cells #[.iface t u, .int .i64 l, .int .i64 g] 100) = w' := by
  go_enter Tryd.func43, Tryd.ntmps43
  go_wp2
  go_ret
  exact ⟨rfl, rfl⟩

def MadePost (c : List Lk) (w : World) (e : Ending) (w' : World) : Prop := ∃ v, e = .returned v ∧ ErrIs w' c v ∧ Below w.heap.size w w'
theorem at_any {w : World} (p : Int) {c : List Lk} {v : Value} (h : ErrIs w c v) : Calls Tryd.prog 40 #[.int .i64 p, v] w (MadePost (onto (.plc p) c) w) := by
  cases c with
  | nil =>
    obtain rfl : v = .nilIface := h
    exact (at_nil p w).mono fun e w' ⟨he, hw⟩ => ⟨_, he, rfl, hw ▸ Below.refl _ _⟩
  | cons k r =>
    obtain ⟨t, u, rfl⟩ := h.form1
    refine (at_some p t u w).mono fun e w' ⟨he, hw⟩ => ?_
    subst hw
    have hb : Below w.heap.size w (w.alloc (.cells #[.iface t u, .int .i64 p] 96)) := (Below.refl _ _).alloc (Nat.le_refl _) _
    exact ⟨_, he, ⟨by simp, _, _, rfl, heap_alloc_new w _, h.below hb⟩, hb⟩
theorem bound_any {w : World} (l g : Int) {c : List Lk} {v : Value} (h : ErrIs w c v) : Calls Tryd.prog 43 #[.int .i64 l, .int .i64 g, v] w (MadePost (onto (.bnd l g) c) w) := by
  cases c with
  | nil =>
    obtain rfl : v = .nilIface := h
    exact (bound_nil l g w).mono fun e w' ⟨he, hw⟩ => ⟨_, he, rfl, hw ▸ Below.refl _ _⟩
  | cons k r =>
    obtain ⟨t, u, rfl⟩ := h.form1
    refine (bound_some l g t u w).mono fun e w' ⟨he, hw⟩ => ?_
    subst hw
    have hb : Below w.heap.size w (w.alloc (.cells #[.iface t u, .int .i64 l, .int .i64 g] 100)) := (Below.refl _ _).alloc (Nat.le_refl _) _
    exact ⟨_, he, ⟨by simp, _, _, rfl, heap_alloc_new w _, h.below hb⟩, hb⟩
theorem new_any (n : Int) (w : World) : Calls Tryd.prog 41 #[.int .i64 n] w (MadePost (newL n) w) := by
  by_cases h : n = 0
  · subst h
    exact (new_zero w).mono fun e w' ⟨he, hw⟩ => ⟨_, he, rfl, hw ▸ Below.refl _ _⟩
  · unfold newL
    rw [if_neg h]
    exact (new_num n h w).mono fun e w' ⟨he, hw⟩ => ⟨_, he, ⟨rfl, rfl⟩, hw ▸ Below.refl _ _⟩

end Go.Proofs.YtmaokoekbjjgfaaDoor
