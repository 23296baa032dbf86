/- The reference's tape in memory; New, spent, Find, Used. -/
import Derived.Test.YtnegnokielmgkaaGreatDoorZBasB
import Derived.Test.YtnegnokielmgkaaGreatDoorZCrcD
set_option linter.unusedSimpArgs false
set_option linter.unusedVariables false
set_option linter.unnecessarySimpa false
namespace Go.Proofs.YtnegnokielmgkaaGreatDoor
open Go.RowKit

/-- A segment of the reference: its number, its bytes as they lie, its bytes, how many are synced. -/
structure RSeg where
  n : Int
  v : Value
  b : List UInt8
  s : Nat
def RSeg.cells (x : RSeg) : List Value := [.int .i64 x.n, x.v, .int .i64 (x.s : Int)]
structure RTp where
  room : Int
  L : List RSeg
  v : Value
  fuse : Int
  down : Bool
structure RefAt (w : World) (r : Nat) (R : RTp) : Prop where
  head : w.heap[r]? = some (.cells #[.int .i64 R.room, R.v, .int .i64 R.fuse, .bool R.down] 81 (0, 0))
  row : RowIs w 3 R.v R.L.length (R.L.flatMap RSeg.cells)
  segs : ∀ x ∈ R.L, BIs w x.v x.b ∧ x.s ≤ x.b.length
  own : R.v.ownBlock ≠ some r
theorem RefAt.below {w w' : World} {r : Nat} {R : RTp} (h : RefAt w r R) (hb : Below w.heap.size w w') : RefAt w' r R :=
  ⟨(hb.block r (heap_lt h.head)).trans h.head, h.row.below hb, fun x hx => ⟨(h.segs x hx).1.below hb, (h.segs x hx).2⟩, h.own⟩
def newR (n : Int) : RTp := ⟨n, [], .slice none 0 0, -1, false⟩
theorem newR_at (w : World) (n : Int) : RefAt (w.alloc (.cells #[.int .i64 n, .slice none 0 0, .int .i64 (-1), .bool false] 81)) w.heap.size (newR n) :=
  ⟨alloc_at w _, .nil _ _, (fun x hx => by cases hx), (fun h => by cases h)⟩
set_option maxRecDepth 100000 in
theorem rnew_any {w : World} (n : Int) : Calls Tryz.prog 10 #[.int .i64 n] w fun e w' => e = .returned (.pointer (some ⟨w.heap.size, 0, none⟩)) ∧ RefAt w' w.heap.size (newR n) ∧ Below w.heap.size w w' := by
  have H := Lib.hid (newR_at w n)
  have HB := Lib.hid (below_new (w := w) (.cells #[.int .i64 n, .slice none 0 0, .int .i64 (-1), .bool false] 81))
  go_enter Tryz.func10, Tryz.ntmps10
  go_wp2
  go_ret
  exact ⟨rfl, H.out, HB.out⟩
/-- The reference's fuse: no change is left. -/
def rspent (R : RTp) : Bool := R.fuse == 0
def rburnt (R : RTp) : RTp := if R.fuse = 0 then { R with down := true } else if 0 < R.fuse then { R with fuse := R.fuse - 1 } else R
theorem RefAt.turn {w w' : World} {r : Nat} {R R' : RTp} (h : RefAt w r R) (ht : Touch (· = r) w w') (hL : R'.L = R.L) (hv : R'.v = R.v) (hh : w'.heap[r]? = some (.cells #[.int .i64 R'.room, R'.v, .int .i64 R'.fuse, .bool R'.down] 81 (0, 0))) (hfar : ∀ x ∈ R.L, ∀ A n c, x.v = .slice (some A) n c → A.block ≠ r) : RefAt w' r R' := by
  refine ⟨hh, ?_, ?_, by rw [hv]; exact h.own⟩
  · rw [hL, hv]; exact h.row.touch ht fun g hg e => h.own (by rw [hg, e])
  · rw [hL]
    intro x hx
    refine ⟨?_, (h.segs x hx).2⟩
    obtain ⟨A, cap, e, h1, h2, h3⟩ := (h.segs x hx).1
    refine ⟨A, cap, e, h1, h2, fun i b hi => ?_⟩
    obtain ⟨a, q1, q2, q3⟩ := h3 i b hi
    subst q1
    exact ⟨a, rfl, Nat.lt_of_lt_of_le q2 ht.size, (World.cell?_of_block (a := a.add i) (by rw [add_block]; exact ht.block _ q2 (hfar x hx a _ _ e))).trans q3⟩
set_option maxRecDepth 100000 in
set_option maxHeartbeats 1000000 in
theorem rspent_any {w : World} {r : Nat} {R : RTp} (h : RefAt w r R) (hf : -1 ≤ R.fuse) (hf2 : R.fuse ≤ 9223372036854775807) (hfar : ∀ x ∈ R.L, ∀ A n c, x.v = .slice (some A) n c → A.block ≠ r) :
    Calls Tryz.prog 64 #[.pointer (some ⟨r, 0, none⟩)] w fun e w' => e = .returned (.bool (rspent R)) ∧ RefAt w' r (rburnt R) ∧ Touch (· = r) w w' := by
  have hc2 : w.cell? ⟨r, 2, none⟩ = some (.int .i64 R.fuse) := cell_of h.head 2
  have hc3 : w.cell? ⟨r, 3, none⟩ = some (.bool R.down) := cell_of h.head 3
  have f2 : w.frozen? ⟨r, 2, none⟩ = false := free0 h.head 2
  have f3 : w.frozen? ⟨r, 3, none⟩ = false := free0 h.head 3
  by_cases h0 : R.fuse = 0
  · have H : Hid (RefAt (w.setCell ⟨r, 3, none⟩ (.bool true)) r (rburnt R) ∧ Touch (· = r) w (w.setCell ⟨r, 3, none⟩ (.bool true))) := by
      have ht := (Touch.refl (· = r) w).setCell ⟨r, 3, none⟩ (fun _ => rfl) (.bool true)
      refine ⟨h.turn ht (by unfold rburnt; rw [if_pos h0]) (by unfold rburnt; rw [if_pos h0]) ?_ hfar, ht⟩
      unfold rburnt
      rw [if_pos h0]
      exact set_at h.head 3 _
    have e0 : Hid (rspent R = true) := by show _ = _; unfold rspent; rw [h0]; rfl
    rw [h0] at hc2
    clear h hf hf2 hfar h0
    go_enter Tryz.func64, Tryz.ntmps64
    go_wp2
    go_ret
    exact ⟨congrArg (fun b => Ending.returned (.bool b)) e0.out.symm, H.out⟩
  · have e0 : Hid (rspent R = false) := by show _ = _; unfold rspent; simpa using h0
    by_cases h1 : 0 < R.fuse
    · have H : Hid (RefAt (w.setCell ⟨r, 2, none⟩ (.int .i64 (R.fuse - 1))) r (rburnt R) ∧ Touch (· = r) w (w.setCell ⟨r, 2, none⟩ (.int .i64 (R.fuse - 1)))) := by
        have ht := (Touch.refl (· = r) w).setCell ⟨r, 2, none⟩ (fun _ => rfl) (.int .i64 (R.fuse - 1))
        refine ⟨h.turn ht (by unfold rburnt; rw [if_neg h0, if_pos h1]) (by unfold rburnt; rw [if_neg h0, if_pos h1]) ?_ hfar, ht⟩
        unfold rburnt
        rw [if_neg h0, if_pos h1]
        exact set_at h.head 2 _
      have q1 : IntKind.i64.wrap (R.fuse - 1) = R.fuse - 1 := IntWalk.i64_in _ (by omega)
      clear h hf hfar
      generalize R.fuse = f at *
      go_enter Tryz.func64, Tryz.ntmps64
      go_wp2
      go_ret
      exact ⟨congrArg (fun b => Ending.returned (.bool b)) e0.out.symm, H.out⟩
    · have H : Hid (RefAt w r (rburnt R) ∧ Touch (· = r) w w) := ⟨by unfold rburnt; rw [if_neg h0, if_neg h1]; exact h, .refl _ _⟩
      clear h hf hfar
      generalize R.fuse = f at *
      go_enter Tryz.func64, Tryz.ntmps64
      go_wp2
      go_ret
      exact ⟨congrArg (fun b => Ending.returned (.bool b)) e0.out.symm, H.out⟩
end Go.Proofs.YtnegnokielmgkaaGreatDoor
