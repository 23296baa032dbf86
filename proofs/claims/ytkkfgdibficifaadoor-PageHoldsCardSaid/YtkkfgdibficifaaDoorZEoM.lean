/- fault.At, fault.In, fault.Bound, and the functions wrapped and made of the law file, at every chain and links. -/
import Derived.Test.YtkkfgdibficifaaDoorZEoE
set_option linter.unusedSimpArgs false
set_option linter.unusedVariables false
namespace Go.Proofs.YtkkfgdibficifaaDoor
open Go.RowKit
set_option maxHeartbeats 400000 in
theorem new_zero (w : World) : Calls Tryd.prog 33 #[.int .i64 0] w fun e w' => e = .returned .nilIface ∧ w = w' := by
  go_enter Tryd.func33, Tryd.ntmps33
  go_wp2
  go_ret
  exact ⟨rfl, rfl⟩
set_option maxHeartbeats 400000 in
theorem new_num (n : Int) (hn : n ≠ 0) (w : World) : Calls Tryd.prog 33 #[.int .i64 n] w fun e w' => e = .returned (.iface 75 (.agg #[.int .i64 n])) ∧ w = w' := by
  have h0 : (n == 0) = false := beq_eq_false_iff_ne.2 hn
  go_enter Tryd.func33, Tryd.ntmps33
  go_wp2
  go_ret
  exact ⟨rfl, rfl⟩

def onto (k : Lk) : List Lk → List Lk
  | [] => []
  | k' :: r => k :: k' :: r
def newL (e : Int) : List Lk := if e = 0 then [] else [.num e]
/-! New, At, In, Bound -/
set_option maxHeartbeats 400000 in
theorem in_nil (s : ByteArray) (w : World) : Calls Tryd.prog 32 #[.string s, .nilIface] w fun e w' => e = .returned .nilIface ∧ w = w' := by
  go_enter Tryd.func32, Tryd.ntmps32
  go_wp2
  go_ret
  exact ⟨rfl, rfl⟩
set_option maxHeartbeats 400000 in
theorem in_some (s : ByteArray) (t : TypeId) (u : Value) (w : World) : Calls Tryd.prog 32 #[.string s, .iface t u] w fun e w' => e = .returned (.iface 92 (.pointer (some ⟨w.heap.size, 0, none⟩))) ∧ w.alloc (.cells #[.iface t u, .string s] 96) = w' := by
  go_enter Tryd.func32, Tryd.ntmps32
  go_wp2
  go_ret
  exact ⟨rfl, rfl⟩
set_option maxHeartbeats 400000 in
theorem bound_nil (l g : Int) (w : World) : Calls Tryd.prog 35 #[.int .i64 l, .int .i64 g, .nilIface] w fun e w' => e = .returned .nilIface ∧ w = w' := by
  go_enter Tryd.func35, Tryd.ntmps35
  go_wp2
  go_ret
  exact ⟨rfl, rfl⟩
set_option maxHeartbeats 400000 in
theorem bound_some (l g : Int) (t : TypeId) (u : Value) (w : World) : Calls Tryd.prog 35 #[.int .i64 l, .int .i64 g, .iface t u] w fun e w' => e = .returned (.iface 98 (.pointer (some ⟨w.heap.size, 0, none⟩))) ∧ w.alloc (.cells #[.iface t u, .int .i64 l, .int .i64 g] 100) = w' := by
  go_enter Tryd.func35, Tryd.ntmps35
  go_wp2
  go_ret
  exact ⟨rfl, rfl⟩

def MadePost (c : List Lk) (w : World) (e : Ending) (w' : World) : Prop := ∃ v, e = .returned v ∧ ErrIs w' c v ∧ Below w.heap.size w w'
theorem in_any {w : World} (p : ByteArray) {c : List Lk} {v : Value} (h : ErrIs w c v) : Calls Tryd.prog 32 #[.string p, v] w (MadePost (onto (.nam p) c) w) := by
  cases c with
  | nil =>
    obtain rfl : v = .nilIface := h
    exact (in_nil p w).mono fun e w' ⟨he, hw⟩ => ⟨_, he, rfl, hw ▸ Below.refl _ _⟩
  | cons k r =>
    obtain ⟨t, u, rfl⟩ := h.form1
    refine (in_some p t u w).mono fun e w' ⟨he, hw⟩ => ?_
    subst hw
    have hb : Below w.heap.size w (w.alloc (.cells #[.iface t u, .string p] 96)) := (Below.refl _ _).alloc (Nat.le_refl _) _
    exact ⟨_, he, ⟨by simp, _, _, rfl, heap_alloc_new w _, h.below hb⟩, hb⟩
theorem bound_any {w : World} (l g : Int) {c : List Lk} {v : Value} (h : ErrIs w c v) : Calls Tryd.prog 35 #[.int .i64 l, .int .i64 g, v] w (MadePost (onto (.bnd l g) c) w) := by
  cases c with
  | nil =>
    obtain rfl : v = .nilIface := h
    exact (bound_nil l g w).mono fun e w' ⟨he, hw⟩ => ⟨_, he, rfl, hw ▸ Below.refl _ _⟩
  | cons k r =>
    obtain ⟨t, u, rfl⟩ := h.form1
    refine (bound_some l g t u w).mono fun e w' ⟨he, hw⟩ => ?_
    subst hw
    have hb : Below w.heap.size w (w.alloc (.cells #[.iface t u, .int .i64 l, .int .i64 g] 100)) := (Below.refl _ _).alloc (Nat.le_refl _) _
    exact ⟨_, he, ⟨by simp, _, _, rfl, heap_alloc_new w _, h.below hb⟩, hb⟩
theorem new_any (n : Int) (w : World) : Calls Tryd.prog 33 #[.int .i64 n] w (MadePost (newL n) w) := by
  by_cases h : n = 0
  · subst h
    exact (new_zero w).mono fun e w' ⟨he, hw⟩ => ⟨_, he, rfl, hw ▸ Below.refl _ _⟩
  · unfold newL
    rw [if_neg h]
    exact (new_num n h w).mono fun e w' ⟨he, hw⟩ => ⟨_, he, ⟨rfl, rfl⟩, hw ▸ Below.refl _ _⟩

end Go.Proofs.YtkkfgdibficifaaDoor
