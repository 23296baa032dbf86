/- The reference's tape in memory; New, spent, Find, Used. The reference's tape: Used. The reference's tape: Find, Free. -/
import Derived.Test.YtnegnokielmgkaaGreatDoorZBasB
import Derived.Test.YtnegnokielmgkaaGreatDoorZCrcD
import Derived.Deep.RegionHeld
set_option linter.unusedSimpArgs false
set_option linter.unusedVariables false
set_option linter.unnecessarySimpa false
namespace Go.Proofs.YtnegnokielmgkaaGreatDoor
open Go.RowKit

/-- A segment of the reference: its number, its bytes as they lie, its bytes, how many are synced. -/
structure RSeg where
  n : Int
  v : Value
  b : List UInt8
  s : Nat
def RSeg.cells (x : RSeg) : List Value := [.int .i64 x.n, x.v, .int .i64 (x.s : Int)]
structure RTp where
  room : Int
  L : List RSeg
  v : Value
  fuse : Int
  down : Bool
structure RefAt (w : World) (r : Nat) (R : RTp) : Prop where
  head : w.heap[r]? = some (.cells #[.int .i64 R.room, R.v, .int .i64 R.fuse, .bool R.down] 81 (0, 0))
  row : RowIs w 3 R.v R.L.length (R.L.flatMap RSeg.cells)
  segs : ∀ x ∈ R.L, BIs w x.v x.b ∧ x.s ≤ x.b.length
  own : R.v.ownBlock ≠ some r
theorem RefAt.below {w w' : World} {r : Nat} {R : RTp} (h : RefAt w r R) (hb : Below w.heap.size w w') : RefAt w' r R :=
  ⟨(hb.block r (heap_lt h.head)).trans h.head, h.row.below hb, fun x hx => ⟨(h.segs x hx).1.below hb, (h.segs x hx).2⟩, h.own⟩
def newR (n : Int) : RTp := ⟨n, [], .slice none 0 0, -1, false⟩
theorem newR_at (w : World) (n : Int) : RefAt (w.alloc (.cells #[.int .i64 n, .slice none 0 0, .int .i64 (-1), .bool false] 81)) w.heap.size (newR n) :=
  ⟨alloc_at w _, .nil _ _, (fun x hx => by cases hx), (fun h => by cases h)⟩
set_option maxRecDepth 100000 in
theorem rnew_any {w : World} (n : Int) : Calls Tryz.prog 10 #[.int .i64 n] w fun e w' => e = .returned (.pointer (some ⟨w.heap.size, 0, none⟩)) ∧ RefAt w' w.heap.size (newR n) ∧ Below w.heap.size w w' := by
  have H := Lib.hid (newR_at w n)
  have HB := Lib.hid (below_new (w := w) (.cells #[.int .i64 n, .slice none 0 0, .int .i64 (-1), .bool false] 81))
  go_enter Tryz.func10, Tryz.ntmps10
  go_wp2
  go_ret
  exact ⟨rfl, H.out, HB.out⟩
/-- The reference's fuse: no change is left. -/
def rspent (R : RTp) : Bool := R.fuse == 0
def rburnt (R : RTp) : RTp := if R.fuse = 0 then { R with down := true } else if 0 < R.fuse then { R with fuse := R.fuse - 1 } else R
theorem RefAt.turn {w w' : World} {r : Nat} {R R' : RTp} (h : RefAt w r R) (ht : Touch (· = r) w w') (hL : R'.L = R.L) (hv : R'.v = R.v) (hh : w'.heap[r]? = some (.cells #[.int .i64 R'.room, R'.v, .int .i64 R'.fuse, .bool R'.down] 81 (0, 0))) (hfar : ∀ x ∈ R.L, ∀ A n c, x.v = .slice (some A) n c → A.block ≠ r) : RefAt w' r R' := by
  refine ⟨hh, ?_, ?_, by rw [hv]; exact h.own⟩
  · rw [hL, hv]; exact h.row.touch ht fun g hg e => h.own (by rw [hg, e])
  · rw [hL]
    intro x hx
    refine ⟨?_, (h.segs x hx).2⟩
    obtain ⟨A, cap, e, h1, h2, h3⟩ := (h.segs x hx).1
    refine ⟨A, cap, e, h1, h2, fun i b hi => ?_⟩
    obtain ⟨a, q1, q2, q3⟩ := h3 i b hi
    subst q1
    exact ⟨a, rfl, Nat.lt_of_lt_of_le q2 ht.size, (World.cell?_of_block (a := a.add i) (by rw [add_block]; exact ht.block _ q2 (hfar x hx a _ _ e))).trans q3⟩
set_option maxRecDepth 100000 in
set_option maxHeartbeats 1000000 in
theorem rspent_any {w : World} {r : Nat} {R : RTp} (h : RefAt w r R) (hf : -1 ≤ R.fuse) (hf2 : R.fuse ≤ 9223372036854775807) (hfar : ∀ x ∈ R.L, ∀ A n c, x.v = .slice (some A) n c → A.block ≠ r) :
    Calls Tryz.prog 64 #[.pointer (some ⟨r, 0, none⟩)] w fun e w' => e = .returned (.bool (rspent R)) ∧ RefAt w' r (rburnt R) ∧ Touch (· = r) w w' := by
  have hc2 : w.cell? ⟨r, 2, none⟩ = some (.int .i64 R.fuse) := cell_of h.head 2
  have hc3 : w.cell? ⟨r, 3, none⟩ = some (.bool R.down) := cell_of h.head 3
  have f2 : w.frozen? ⟨r, 2, none⟩ = false := free0 h.head 2
  have f3 : w.frozen? ⟨r, 3, none⟩ = false := free0 h.head 3
  by_cases h0 : R.fuse = 0
  · have H : Hid (RefAt (w.setCell ⟨r, 3, none⟩ (.bool true)) r (rburnt R) ∧ Touch (· = r) w (w.setCell ⟨r, 3, none⟩ (.bool true))) := by
      have ht := (Touch.refl (· = r) w).setCell ⟨r, 3, none⟩ (fun _ => rfl) (.bool true)
      refine ⟨h.turn ht (by unfold rburnt; rw [if_pos h0]) (by unfold rburnt; rw [if_pos h0]) ?_ hfar, ht⟩
      unfold rburnt
      rw [if_pos h0]
      exact set_at h.head 3 _
    have e0 : Hid (rspent R = true) := by show _ = _; unfold rspent; rw [h0]; rfl
    rw [h0] at hc2
    clear h hf hf2 hfar h0
    go_enter Tryz.func64, Tryz.ntmps64
    go_wp2
    go_ret
    exact ⟨congrArg (fun b => Ending.returned (.bool b)) e0.out.symm, H.out⟩
  · have e0 : Hid (rspent R = false) := by show _ = _; unfold rspent; simpa using h0
    by_cases h1 : 0 < R.fuse
    · have H : Hid (RefAt (w.setCell ⟨r, 2, none⟩ (.int .i64 (R.fuse - 1))) r (rburnt R) ∧ Touch (· = r) w (w.setCell ⟨r, 2, none⟩ (.int .i64 (R.fuse - 1)))) := by
        have ht := (Touch.refl (· = r) w).setCell ⟨r, 2, none⟩ (fun _ => rfl) (.int .i64 (R.fuse - 1))
        refine ⟨h.turn ht (by unfold rburnt; rw [if_neg h0, if_pos h1]) (by unfold rburnt; rw [if_neg h0, if_pos h1]) ?_ hfar, ht⟩
        unfold rburnt
        rw [if_neg h0, if_pos h1]
        exact set_at h.head 2 _
      have q1 : IntKind.i64.wrap (R.fuse - 1) = R.fuse - 1 := IntWalk.i64_in _ (by omega)
      clear h hf hfar
      generalize R.fuse = f at *
      go_enter Tryz.func64, Tryz.ntmps64
      go_wp2
      go_ret
      exact ⟨congrArg (fun b => Ending.returned (.bool b)) e0.out.symm, H.out⟩
    · have H : Hid (RefAt w r (rburnt R) ∧ Touch (· = r) w w) := ⟨by unfold rburnt; rw [if_neg h0, if_neg h1]; exact h, .refl _ _⟩
      clear h hf hfar
      generalize R.fuse = f at *
      go_enter Tryz.func64, Tryz.ntmps64
      go_wp2
      go_ret
      exact ⟨congrArg (fun b => Ending.returned (.bool b)) e0.out.symm, H.out⟩
end Go.Proofs.YtnegnokielmgkaaGreatDoor

namespace Go.Proofs.YtnegnokielmgkaaGreatDoor
open Go.RowKit

def rused (L : List RSeg) : Nat := (L.map fun x => x.b.length).sum
theorem rcells_at (L : List RSeg) : ∀ (i j : Nat) (x : RSeg), L[i]? = some x → j < 3 → (L.flatMap RSeg.cells)[i * 3 + j]? = x.cells[j]? := by
  induction L with
  | nil => intro i j x h; simp at h
  | cons y r ih =>
    intro i j x h hj
    have hl : y.cells.length = 3 := rfl
    rw [List.flatMap_cons]
    cases i with
    | zero =>
      have : y = x := by simpa using h
      subst this
      rw [List.getElem?_append_left (by rw [hl]; omega)]
      simp
    | succ i =>
      rw [List.getElem?_append_right (by rw [hl]; omega), hl]
      have : (i + 1) * 3 + j - 3 = i * 3 + j := by omega
      rw [this]
      exact ih i j x (by simpa using h) hj
/-- One segment's three cells. -/
theorem RefAt.seg3 {w : World} {r : Nat} {R : RTp} (h : RefAt w r R) {A : Option Addr} {n cap : Nat} (hv : R.v = .slice A n cap) {i : Nat} {x : RSeg} (hx : R.L[i]? = some x) : ∃ g, A = some ⟨g, 0, none⟩ ∧ g < w.heap.size ∧ w.cell? ⟨g, i * 3, none⟩ = some (.int .i64 x.n) ∧ w.cell? ⟨g, i * 3 + 1, none⟩ = some x.v ∧ w.cell? ⟨g, i * 3 + 2, none⟩ = some (.int .i64 (x.s : Int)) := by
  rcases h.row with ⟨_, _, h3⟩ | ⟨g, cap', e, _, _, h3⟩
  · have := rcells_at R.L i 0 x hx (by omega)
    rw [h3] at this
    simp [RSeg.cells] at this
  · rw [e] at hv
    injection hv with hv _ _
    refine ⟨g, hv.symm, h3.lt, ?_, ?_, ?_⟩
    · have := rcells_at R.L i 0 x hx (by omega)
      exact h3.holds _ _ this
    · exact h3.holds _ _ (rcells_at R.L i 1 x hx (by omega))
    · exact h3.holds _ _ (rcells_at R.L i 2 x hx (by omega))
theorem rused_take {L : List RSeg} {k : Nat} {x : RSeg} (hx : L[k]? = some x) : rused (L.take (k + 1)) = rused (L.take k) + x.b.length := by
  unfold rused
  rw [List.take_add_one, hx]
  simp
theorem rused_le (L : List RSeg) (k : Nat) : rused (L.take k) ≤ rused L := by
  unfold rused
  have := congrArg (fun l => (l.map fun x : RSeg => x.b.length).sum) (List.take_append_drop k L)
  simp only [List.map_append, List.sum_append] at this
  omega
set_option maxRecDepth 100000 in
set_option maxHeartbeats 2000000 in
theorem rused_any {w : World} {r : Nat} {R : RTp} (h : RefAt w r R) (hl : R.L.length ≤ 64) (hu : rused R.L ≤ 1048576) : Calls Tryz.prog 69 #[.pointer (some ⟨r, 0, none⟩)] w fun e w' => e = .returned (.int .i64 (rused R.L : Nat)) ∧ Below w.heap.size w w' := by
  obtain ⟨A, cap, ev, hc1, hc2, _⟩ := h.row.form
  have hc := cell_of h.head 1
  replace hc : w.cell? ⟨r, 1, none⟩ = some (.slice A R.L.length cap) := by rw [hc, ← ev]; rfl
  have H := Lib.hid h
  have EV := Lib.hid ev
  unfold maxLen at hc2
  clear h ev
  go_enter Tryz.func69, Tryz.ntmps69
  go_wp2_with fail
  go_loopw [3, 11] (fun s i wr => ∃ k : Nat, k ≤ R.L.length ∧ i = .int .i64 k ∧ s = .int .i64 (rused (R.L.take k) : Nat) ∧ Below w.heap.size w wr) (fun _ i _ => R.L.length - (intOf i).toNat)
  case atStart => exact ⟨0, by omega, rfl, rfl, Below.refl _ _⟩
  case round =>
    obtain ⟨k, hk, rfl, rfl, hb⟩ := hrel
    have HB := Lib.hid hb
    by_cases hlt : k < R.L.length
    · have hx : R.L[k]? = some R.L[k] := List.getElem?_eq_getElem hlt
      obtain ⟨g, rfl, hg, k0, k1, k2⟩ := H.out.seg3 EV.out hx
      have hbx := (H.out.segs _ (List.getElem_mem hlt)).1
      have HT := Lib.hid (rused_take hx)
      have hle := rused_le R.L (k + 1)
      rw [HT.out] at hle
      generalize R.L[k] = x at *
      obtain ⟨Ax, cx, ex, _⟩ := hbx
      rw [ex] at k1
      have c0 := (hb.cell (p := ⟨g, k * 3, none⟩) hg).trans k0
      have c1 := (hb.cell (p := ⟨g, k * 3 + 1, none⟩) hg).trans k1
      have c2 := (hb.cell (p := ⟨g, k * 3 + 2, none⟩) hg).trans k2
      have ha : (⟨g, 0, none⟩ : Addr).add (k * 3) = ⟨g, k * 3, none⟩ := add0 _ _
      have q1 : (rused (R.L.take k) : Int) + (x.b.length : Int) ≤ 1048576 := by omega
      have HN := Lib.hid (below_new (w := wr) (.cells #[.int .i64 x.n, .slice Ax x.b.length cx, .int .i64 (x.s : Int)] 108))
      replace hlt : (k : Int) < (R.L.length : Int) := by omega
      clear hx k0 k1 k2 hb ex hle
      go_wp2_with fail
      go_roundw
      case rel => exact ⟨k + 1, by omega, by go_num, by rw [HT.out]; go_num, HB.out.trans (HN.out.mono HB.out.size)⟩
      case measure => simp [intOf]; omega
    · obtain rfl : k = R.L.length := by omega
      go_wp2
      go_ret
      rw [List.take_length]
      exact ⟨rfl, HB.out⟩
end Go.Proofs.YtnegnokielmgkaaGreatDoor

namespace Go.Proofs.YtnegnokielmgkaaGreatDoor
open Go.RowKit

set_option maxRecDepth 100000 in
set_option maxHeartbeats 2000000 in
theorem rfind_any {w : World} {r : Nat} {R : RTp} (h : RefAt w r R) (hl : R.L.length ≤ 64) (seg : Int) : Calls Tryz.prog 49 #[.pointer (some ⟨r, 0, none⟩), .int .i64 seg] w fun e w' => ((∃ (j : Nat) (x : RSeg), R.L[j]? = some x ∧ x.n = seg ∧ e = .returned (.int .i64 (j : Int))) ∨ ((∀ x ∈ R.L, x.n ≠ seg) ∧ e = .returned (.int .i64 (-1)))) ∧ Below w.heap.size w w' := by
  obtain ⟨A, cap, ev, hc1, hc2, _⟩ := h.row.form
  have hc := cell_of h.head 1
  replace hc : w.cell? ⟨r, 1, none⟩ = some (.slice A R.L.length cap) := by rw [hc, ← ev]; rfl
  have H := Lib.hid h
  have EV := Lib.hid ev
  unfold maxLen at hc2
  clear h ev
  go_enter Tryz.func49, Tryz.ntmps49
  go_wp2_with fail
  go_loopw [12] (fun i wr => ∃ k : Nat, k ≤ R.L.length ∧ i = .int .i64 k ∧ (∀ (j : Nat) (x : RSeg), j < k → R.L[j]? = some x → x.n ≠ seg) ∧ Below w.heap.size w wr) (fun i _ => R.L.length - (intOf i).toNat)
  case atStart => exact ⟨0, by omega, rfl, (fun j x h => absurd h (Nat.not_lt_zero _)), Below.refl _ _⟩
  case round =>
    obtain ⟨k, hk, rfl, hno, hb⟩ := hrel
    have HB := Lib.hid hb
    have HNO := Lib.hid hno
    by_cases hlt : k < R.L.length
    · have hx : R.L[k]? = some R.L[k] := List.getElem?_eq_getElem hlt
      obtain ⟨g, rfl, hg, k0, k1, k2⟩ := H.out.seg3 EV.out hx
      have hbx := (H.out.segs _ (List.getElem_mem hlt)).1
      have HX := Lib.hid hx
      generalize R.L[k] = x at *
      obtain ⟨Ax, cx, ex, _⟩ := hbx
      rw [ex] at k1
      have c0 := (hb.cell (p := ⟨g, k * 3, none⟩) hg).trans k0
      have c1 := (hb.cell (p := ⟨g, k * 3 + 1, none⟩) hg).trans k1
      have c2 := (hb.cell (p := ⟨g, k * 3 + 2, none⟩) hg).trans k2
      have ha : (⟨g, 0, none⟩ : Addr).add (k * 3) = ⟨g, k * 3, none⟩ := add0 _ _
      have HN := Lib.hid (below_new (w := wr) (.cells #[.int .i64 x.n, .slice Ax x.b.length cx, .int .i64 (x.s : Int)] 108))
      replace hlt : (k : Int) < (R.L.length : Int) := by omega
      clear hx k0 k1 k2 hb ex hno
      by_cases he : x.n = seg
      · have HE := Lib.hid he
        have he2 : (x.n == seg) = true := by simpa using he
        clear he
        rw [HE.out] at c0 HN
        go_wp2_with fail
        go_ret
        exact ⟨.inl ⟨k, x, HX.out, HE.out, rfl⟩, HB.out.trans (HN.out.mono HB.out.size)⟩
      · have HE := Lib.hid he
        go_wp2_with fail
        go_roundw
        case rel =>
          refine ⟨k + 1, by omega, by go_num, fun j y hj hy => ?_, HB.out.trans (HN.out.mono HB.out.size)⟩
          rcases Nat.lt_or_ge j k with h1 | h1
          · exact HNO.out j y h1 hy
          · obtain rfl : j = k := by omega
            rw [HX.out] at hy
            obtain rfl := Option.some.inj hy
            exact HE.out
        case measure => simp [intOf]; omega
    · obtain rfl : k = R.L.length := by omega
      go_wp2
      go_ret
      refine ⟨.inr ⟨fun x hx => ?_, rfl⟩, HB.out⟩
      obtain ⟨j, hj⟩ := List.getElem?_of_mem hx
      exact HNO.out j x (List.getElem?_eq_some_iff.1 hj).1 hj
set_option maxRecDepth 100000 in
set_option maxHeartbeats 1000000 in
theorem rfree_any {w : World} {r : Nat} {R : RTp} (h : RefAt w r R) (hl : R.L.length ≤ 64) (hu : rused R.L ≤ 1048576) {room : Nat} (hr : R.room = (room : Int)) (hr2 : room ≤ 1048576) : Calls Tryz.prog 63 #[.pointer (some ⟨r, 0, none⟩)] w fun e w' => e = .returned (.int .i64 (room - rused R.L : Nat)) ∧ Below w.heap.size w w' := by
  have HU := Lib.hid (fun W (hW : Below w.heap.size w W) => (rused_any (h.below hW) hl hu).mono fun e w' (k : e = .returned (.int .i64 (rused R.L : Nat)) ∧ Below W.heap.size W w') => (⟨k.1, hW.trans (k.2.mono hW.size)⟩ : e = .returned (.int .i64 (rused R.L : Nat)) ∧ Below w.heap.size w w'))
  have hc := cell_of h.head 0
  replace hc : w.cell? ⟨r, 0, none⟩ = some (.int .i64 (room : Int)) := by rw [hc, ← hr]; rfl
  have hlt := heap_lt h.head
  have HC := Lib.hid (fun W (hW : Below w.heap.size w W) => (hW.cell (p := ⟨r, 0, none⟩) hlt).trans hc)
  clear h hr
  generalize rused R.L = u at *
  have q1 : IntKind.i64.wrap ((room : Int) - (u : Int)) = (room : Int) - (u : Int) := IntWalk.i64_in _ (by omega)
  by_cases h0 : room < u
  · have e1 : Hid (room - u = 0) := by show _ = _; omega
    have q2 : (room : Int) - (u : Int) < 0 := by omega
    clear h0
    go_enter Tryz.func63, Tryz.ntmps63
    go_wp2_with fail
    go_region_held (fun W => W.cell? ⟨r, 0, none⟩ = some (.int .i64 (room : Int))) ((first | go_keep | assumption)) (first | (go_at_call 69; refine (HU.out _ (below_drew (Below.refl _ _))).mono ?_; rintro x w1 ⟨rfl, hb1⟩; have hk := HC.out _ hb1))
    all_goals
      go_wp2
      go_ret
      rw [e1.out]
      exact ⟨rfl, by assumption⟩
  · have e1 : Hid ((((room - u : Nat) : Int)) = (room : Int) - (u : Int)) := by show _ = _; omega
    have q2 : ¬ (room : Int) - (u : Int) < 0 := by omega
    clear h0
    go_enter Tryz.func63, Tryz.ntmps63
    go_wp2_with fail
    go_region_held (fun W => W.cell? ⟨r, 0, none⟩ = some (.int .i64 (room : Int))) ((first | go_keep | assumption)) (first | (go_at_call 69; refine (HU.out _ (below_drew (Below.refl _ _))).mono ?_; rintro x w1 ⟨rfl, hb1⟩; have hk := HC.out _ hb1))
    all_goals
      go_wp2
      go_ret
      rw [e1.out]
      exact ⟨rfl, by assumption⟩
end Go.Proofs.YtnegnokielmgkaaGreatDoor
