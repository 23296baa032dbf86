/- Rows of bytes of the call's own; octet.Nat. (The first half is CrcD's, the second stage 1's OctB.) octet.Num, Str, Seq. (Of stage 1's OctW, OctV, OctU.) Numbers' bytes, in plain words. -/
import Derived.Test.YtkkembbeejlomaaGreatDoorZTak
import Derived.Test.YtkkembbeejlomaaGreatDoorZErrB
import Derived.Test.YtkkembbeejlomaaGreatDoorZShq
import Derived.Deep.AppendSrc
import Derived.Room.Entries
import Derived.Deep.Upon
import Derived.Laws.IdiomStrings
import Derived.Lib.ItoaNum
set_option linter.unusedSimpArgs false
set_option linter.unusedVariables false
set_option linter.unnecessarySimpa false
namespace Go.Proofs.YtkkembbeejlomaaGreatDoor
open Go.RowKit Go.Shelf Go.Lib

def bc (l : List UInt8) : List Value := l.map fun b => Value.int .u8 (b.toNat : Int)
theorem bc_length (l : List UInt8) : (bc l).length = l.length := by simp [bc]
theorem bc_append (a b : List UInt8) : bc (a ++ b) = bc a ++ bc b := by simp [bc]
theorem bc_at {l : List UInt8} {j : Nat} {u : Value} (h : (bc l)[j]? = some u) : ∃ b, l[j]? = some b ∧ u = .int .u8 (b.toNat : Int) := by
  unfold bc at h
  rw [List.getElem?_map] at h
  cases hl : l[j]? with
  | none => rw [hl] at h; cases h
  | some b => rw [hl] at h; exact ⟨b, rfl, (Option.some.inj h).symm⟩
theorem bc_some {l : List UInt8} {j : Nat} {b : UInt8} (h : l[j]? = some b) : (bc l)[j]? = some (.int .u8 (b.toNat : Int)) := by
  unfold bc; rw [List.getElem?_map, h]; rfl
theorem bc_one (l : List UInt8) : ∀ u ∈ bc l, u.oneCell' = true := by
  intro u hu
  obtain ⟨b, _, rfl⟩ := List.mem_map.1 hu
  rfl

/-- Bytes in a block of the call's own, told by its cells. -/
structure OwnC (w : World) (base g cap : Nat) (l : List UInt8) : Prop where
  new : base ≤ g
  lt : g < w.heap.size
  le : l.length ≤ cap
  max : cap ≤ maxLen
  holds : ∀ j b, l[j]? = some b → w.cell? ⟨g, j, none⟩ = some (.int .u8 (b.toNat : Int))
  there : ∀ j, j < cap → (w.cell? ⟨g, j, none⟩).isSome = true ∧ w.frozen? ⟨g, j, none⟩ = false
def OwnBy (w : World) (base : Nat) (v : Value) (l : List UInt8) : Prop :=
  (v = .slice none 0 0 ∧ l = []) ∨ ∃ g cap, v = .slice (some ⟨g, 0, none⟩) l.length cap ∧ OwnC w base g cap l
theorem OwnC.keep {w w' : World} {base g cap : Nat} {l : List UInt8} (h : OwnC w base g cap l) (hs : w.heap.size ≤ w'.heap.size) (hk : w'.heap[g]? = w.heap[g]?) : OwnC w' base g cap l :=
  ⟨h.new, Nat.lt_of_lt_of_le h.lt hs, h.le, h.max, fun j b hj => by rw [World.cell?_of_block (a := ⟨g, j, none⟩) hk]; exact h.holds j b hj, fun j hj => by rw [World.cell?_of_block (a := ⟨g, j, none⟩) hk, World.frozen?_of_block (a := ⟨g, j, none⟩) hk]; exact h.there j hj⟩
theorem OwnBy.below {w w' : World} {base : Nat} {v : Value} {l : List UInt8} (h : OwnBy w base v l) (hb : Below w.heap.size w w') : OwnBy w' base v l := by
  rcases h with h | ⟨g, cap, rfl, h⟩
  · exact .inl h
  · exact .inr ⟨g, cap, rfl, h.keep hb.size (hb.block g h.lt)⟩
theorem info5 : (Tryz.prog.info? 5).map (fun i => (i.zero, i.size, i.bytes)) = some (some (.int .u8 0), 1, 1) := by kernel_rfl

theorem run_append_by (w : World) (base : Nat) (ty tx : TypeId) (v : Value) (l ms : List UInt8) (x : Value) (hown : OwnBy w base v l) (hs : Src Tryz.prog 1 tx x ms.length (bc ms) w) (hlen : l.length + ms.length ≤ 1073741824) (hbase : base ≤ w.heap.size) :
    ∃ v' w', (Builtin.append_ #[39, tx] ty #[v, x]).run Tryz.prog w = .ok v' w' ∧ OwnBy w' base v' (l ++ ms) ∧ w.grownBy w' v.ownBlock := by
  obtain ⟨i0, hi, hz0, hz1, hz2⟩ := info_parts info5
  have hs' : Src Tryz.prog i0.size tx x ms.length (bc ms) w := by rw [hz1]; exact hs
  have grow : ∀ (A : Option Addr) (sCap : Nat), (Builtin.firstCells i0.size l.length (.slice A l.length sCap)).run Tryz.prog w.drew = .ok (bc l).toArray w.drew → sCap < l.length + ms.length →
      ∃ v' w', (Builtin.append_ #[39, tx] ty #[.slice A l.length sCap, x]).run Tryz.prog w = .ok v' w' ∧ OwnBy w' base v' (l ++ ms) ∧ w.grownBy w' (Value.slice A l.length sCap).ownBlock := by
    intro A sCap hold hg
    have hfit : Builtin.nextslicecap (l.length + ms.length) sCap * i0.bytes ≤ 281474976710656 := by
      have := Go.Room.nextslicecap_le' hg
      rw [hz2]; omega
    have hr := run_append_grow_src (P := Tryz.prog) w 39 tx ty 5 i0 _ Tryz.underlying39 hi hz0 A l.length sCap (bc l) hold x ms.length (bc ms) hs' hg (by omega) hfit
    have hge := grownCap_ge w (l.length + ms.length) sCap 5
    have hle := grownCap_le_maxLen w (l.length + ms.length) sCap 5 (by unfold maxLen; omega)
    refine ⟨_, _, hr, .inr ⟨w.heap.size, grownCap w (l.length + ms.length) sCap 5, by simp, ?_⟩, ⟨rfl, rfl, rfl, by simp, fun k hk _ => by rw [Below.heap_alloc _ _ k (by simpa using hk)]; rfl⟩⟩
    have hblk : (w.drew.alloc (.cells ((bc l ++ bc ms).toArray ++ Builtin.zeroCells (Value.cells (.int .u8 0)) (grownCap w (l.length + ms.length) sCap 5 - (l.length + ms.length))) 5)).heap[w.heap.size]? = some (.cells ((bc l ++ bc ms).toArray ++ Builtin.zeroCells (Value.cells (.int .u8 0)) (grownCap w (l.length + ms.length) sCap 5 - (l.length + ms.length))) 5 (0, 0)) := heap_alloc_new w.drew _
    refine ⟨hbase, by simp, by simpa using hge, hle, fun j b hj => ?_, fun j hj => ?_⟩
    · rw [cell_of_row _ _ _ _ _ _ hblk]
      have := bc_some hj
      rw [bc_append] at this
      rw [Array.getElem?_append_left (by simpa using (List.getElem?_eq_some_iff.1 this).1)]
      simpa using this
    · constructor
      · rw [cell_of_row _ _ _ _ _ _ hblk]
        have hsz : j < ((bc l ++ bc ms).toArray ++ Builtin.zeroCells (Value.cells (.int .u8 0)) (grownCap w (l.length + ms.length) sCap 5 - (l.length + ms.length))).size := by
          rw [Array.size_append, size_zeroCells]
          simp [bc_length, Value.cells]
          omega
        rw [Array.getElem?_eq_getElem hsz]; rfl
      · exact free0 hblk j
  rcases hown with ⟨rfl, rfl⟩ | ⟨g, cap, rfl, ho⟩
  · by_cases hz : ms = []
    · subst hz
      exact ⟨.slice none 0 0, w, run_append_nothing w 39 tx ty 5 i0 Tryz.underlying39 hi none 0 0 (Nat.le_refl _) x hs', .inl ⟨rfl, rfl⟩, ⟨rfl, rfl, rfl, Nat.le_refl _, fun _ _ _ => rfl⟩⟩
    · exact grow none 0 (by simp [Builtin.firstCells, bc]) (by simpa using List.length_pos_iff.2 hz)
  · by_cases hroom : l.length + ms.length ≤ cap
    · have hr := run_append_room_src (P := Tryz.prog) w 39 tx ty 5 i0 Tryz.underlying39 hi g 0 l.length cap x ms.length (bc ms) hs' hroom
        (by rw [hz1]; intro j hj; rw [bc_length] at hj; have := (ho.there (l.length + j) (by omega)).1; simpa using this) (by rw [hz1]; intro j hj; rw [bc_length] at hj; have := (ho.there (l.length + j) (by omega)).2; simpa using this)
      rw [hz1] at hr
      have e0 : 0 + l.length * 1 = l.length := by omega
      rw [e0] at hr
      have hkb := World.keptBut_setCells g (may := fun p => p.block = g) (bc ms) l.length w (fun _ _ => rfl)
      refine ⟨_, _, hr, .inr ⟨g, cap, by simp, ?_⟩, ⟨hkb.1, (setCells_tape g (bc ms) l.length w).1, hkb.2.1, Nat.le_of_eq (setCells_tape g (bc ms) l.length w).2.symm, fun k hk hne => hkb.block hk (fun p hp e => hne (by rw [← e, hp]; rfl))⟩⟩
      have hex : ∀ j, j < (bc ms).length → (w.cell? ⟨g, l.length + j, none⟩).isSome = true := fun j hj => (ho.there (l.length + j) (by rw [bc_length] at hj; omega)).1
      refine ⟨ho.new, by rw [(setCells_tape g (bc ms) l.length w).2]; exact ho.lt, by simpa using hroom, ho.max, fun j b hj => ?_, fun j hj => ⟨?_, ?_⟩⟩
      · by_cases hjl : j < l.length
        · rw [World.cell?_setCells_out g (bc ms) l.length w ⟨g, j, none⟩ (fun _ _ => .inl hjl)]
          exact ho.holds j b (by rwa [List.getElem?_append_left hjl] at hj)
        · rw [List.getElem?_append_right (by omega)] at hj
          have h1 := bc_some hj
          have h2 : j - l.length < (bc ms).length := (List.getElem?_eq_some_iff.1 h1).1
          have h3 := World.cell?_setCells_in g (bc ms) l.length w hex (j - l.length) h2
          rw [show l.length + (j - l.length) = j from by omega] at h3
          rw [h3, (List.getElem?_eq_some_iff.1 h1).2]
      · by_cases hin : l.length ≤ j ∧ j < l.length + (bc ms).length
        · have h3 := World.cell?_setCells_in g (bc ms) l.length w hex (j - l.length) (by omega)
          rw [show l.length + (j - l.length) = j from by omega] at h3
          rw [h3]; rfl
        · rw [World.cell?_setCells_out g (bc ms) l.length w ⟨g, j, none⟩ (fun _ _ => by simp only; omega)]
          exact (ho.there j hj).1
      · rw [World.frozen?_setCells]; exact (ho.there j hj).2
    · exact grow (some ⟨g, 0, none⟩) cap (by rw [hz1]; exact run_firstCells_some w.drew 1 l.length ⟨g, 0, none⟩ l.length cap (bc l) (by simp [bc_length]) (fun j u hu => by
        obtain ⟨b, hb, rfl⟩ := bc_at hu
        rw [add0]; exact ho.holds j b hb)) (by omega)

/-- the same, as an arm of a walk -/
theorem wpList_append_by (w : World) {ops : Array Oper} {rest : List Oper} {o : Oper} {a : Act} {Q : Exit → Act → World → Prop} (hgd : o.guard = none) (s x : Operand) (tx : TypeId)
    (ho : o.op = .call { callee := .builtin .append, args := #[s, x], argTypes := #[39, tx] })
    (base : Nat) (l ms : List UInt8) (v y : Value) (hs : a.eval s = v) (hx : a.eval x = y) (hown : OwnBy w base v l) (hsrc : Src Tryz.prog 1 tx y ms.length (bc ms) w) (hlen : l.length + ms.length ≤ 1073741824) (hbase : base ≤ w.heap.size)
    (h : ∀ v' w', OwnBy w' base v' (l ++ ms) → w.grownBy w' v.ownBlock → wpList Tryz.prog ops Q rest (a.put o.dst v') w') : wpList Tryz.prog ops Q (o :: rest) a w :=
  wpList_plain hgd fun K hK => by
    obtain ⟨v', w', hr, h2, h3⟩ := run_append_by w base o.type tx v l ms y hown hsrc hlen hbase
    unfold Oper.wp execOp
    simp only [ho, resolve, invoke, builtin, Sem.run_bind, Sem.run_pure, Result.andThen_ok, List.map_toArray, List.map_cons, List.map_nil, hs, hx, hr]
    exact hK _ _ (h v' w' h2 h3)

/-! the bytes of a number -/
def beB : Nat → Nat → List UInt8
  | 0, _ => []
  | k + 1, n => beB k (n / 256) ++ [UInt8.ofNat (n % 256)]
def sizeB (n : Nat) : Nat := (Lib.bitLen n + 7) / 8
def natB (n : Nat) : List UInt8 := UInt8.ofNat (sizeB n) :: beB (sizeB n) n
theorem beB_length (k n : Nat) : (beB k n).length = k := by
  induction k generalizing n with
  | zero => rfl
  | succ k ih => rw [beB, List.length_append, ih]; rfl
theorem beB_at {k n j : Nat} (hj : j < k) : (beB k n)[j]? = some (UInt8.ofNat (n / 256 ^ (k - 1 - j) % 256)) := by
  induction k generalizing n with
  | zero => omega
  | succ k ih =>
    rw [beB]
    by_cases h : j < k
    · rw [List.getElem?_append_left (by rw [beB_length]; exact h), ih h, Nat.div_div_eq_div_mul, show k + 1 - 1 - j = (k - 1 - j) + 1 from by omega, Nat.pow_succ, Nat.mul_comm]
    · obtain rfl : j = k := by omega
      rw [List.getElem?_append_right (by rw [beB_length]; omega), beB_length]
      simp
theorem bitLenAux_le (f x : Nat) : Lib.bitLenAux f x ≤ f := by
  induction f generalizing x with
  | zero => simp [Lib.bitLenAux]
  | succ f ih =>
    rw [Lib.bitLenAux]
    split
    · omega
    · have := ih (x / 2); omega
theorem bitLen_le (n : Nat) (hn : n ≤ 18446744073709551615) : Lib.bitLen n ≤ 64 := bitLenAux_le 64 n
set_option maxRecDepth 100000 in
set_option maxHeartbeats 1000000 in
theorem onat_any (n : Nat) (hn : n ≤ 18446744073709551615) (w : World) :
    Calls Tryz.prog 49 #[.int .u64 (n : Int)] w fun e w' => ∃ v, e = .returned v ∧ OwnBy w' w.heap.size v (natB n) ∧ Below w.heap.size w w' := by
  have H69 : Hid (∀ W, Calls Tryz.prog 77 #[.int .u64 (n : Int)] W fun e w' => ∃ L : Nat, e = .returned (.int .i64 (L : Int)) ∧ w' = W ∧ L ≤ 64 ∧ (L + 7) / 8 = sizeB n) := fun W =>
    (Any.bits_Len64 Tryz.len64A (n : Int) W (by omega) (by omega)).mono fun e w' ⟨he, hw⟩ => ⟨_, he, hw, by simpa using bitLen_le n hn, by simp [sizeB]⟩
  have hn0 : (0 : Int) ≤ (n : Int) := by omega
  have hn1 : (n : Int) ≤ 18446744073709551615 := by omega
  go_enter Tryz.func49, Tryz.ntmps49
  go_wp2_with fail
  refine (H69.out _).mono ?_
  rintro e w' ⟨L, rfl, rfl, hL, hLs⟩
  generalize hs : sizeB n = s at hLs
  have HS := Lib.hid hs
  have hs8 : s ≤ 8 := by omega
  have q1 : ((L : Int) + 7) / 8 = (s : Int) := by omega
  have q2 : (s : Int) % 256 = (s : Int) := by omega
  have q3 : (0 : Int) ≤ (L : Int) + 7 := by omega
  have q4 : (L : Int) + 7 ≤ 71 := by omega
  have hsi : (s : Int) ≤ 8 := by omega
  clear hLs hs
  go_wp2_with fail
  go_loopw [0, 5] (fun m i wr => ∃ k : Nat, k ≤ s ∧ i = .int .i64 k ∧ m = .int .u64 ((n / 256 ^ (s - k) : Nat) : Int) ∧ Below w.heap.size w wr ∧
    ∃ arr : Array Value, wr.heap[w.heap.size]? = some (.cells arr 125 (0, 0)) ∧ arr.size = 9 ∧ arr[0]? = some (.int .u8 s) ∧ (∀ j, j < 9 → ∃ x : Int, arr[j]? = some (.int .u8 x)) ∧ ∀ j, k < j → j ≤ s → arr[j]? = some (.int .u8 ((n / 256 ^ (s - j) % 256 : Nat) : Int))) (fun _ i _ => (RowKit.intOf i).toNat)
  case atStart =>
    refine ⟨s, Nat.le_refl _, by rw [q1], by simp, (Below.refl _ _).alloc (Nat.le_refl _) _, _, heap_alloc_new w _, by simp, by simp, ?_, fun j h1 h2 => by omega⟩
    intro j hj
    match j, hj with
    | 0, _ => exact ⟨_, rfl⟩
    | 1, _ => exact ⟨_, rfl⟩
    | 2, _ => exact ⟨_, rfl⟩
    | 3, _ => exact ⟨_, rfl⟩
    | 4, _ => exact ⟨_, rfl⟩
    | 5, _ => exact ⟨_, rfl⟩
    | 6, _ => exact ⟨_, rfl⟩
    | 7, _ => exact ⟨_, rfl⟩
    | 8, _ => exact ⟨_, rfl⟩
  case round =>
    obtain ⟨k, hk, rfl, rfl, hb, arr, harr, hsz, h0, hall, hrest⟩ := hrel
    have hm0 : n / 256 ^ (s - k) ≤ n := Nat.div_le_self _ _
    have hm1 : ((n / 256 ^ (s - k) : Nat) : Int) ≤ 18446744073709551615 := by omega
    generalize hm : n / 256 ^ (s - k) = m at *
    have HM := Lib.hid hm
    have HA := Lib.hid harr
    have H0 := Lib.hid h0
    have HALL := Lib.hid hall
    have HR := Lib.hid hrest
    have HB := Lib.hid hb
    have HSZ := Lib.hid hsz
    cases k with
    | zero =>
      clear hm harr h0 hall hrest hb hsz
      have p1 : (0 : Int) ≤ 1 + (s : Int) := by omega
      have p2 : 1 + (s : Int) ≤ 9 := by omega
      go_wp2
      go_ret
      refine ⟨_, rfl, .inr ⟨w.heap.size, 9, ?_, Nat.le_refl _, heap_lt HA.out, ?_, by unfold maxLen; omega, ?_, ?_⟩, HB.out⟩
      · have : (natB n).length = 1 + s := by unfold natB; rw [List.length_cons, beB_length, HS.out]; omega
        rw [this]; rfl
      · have : (natB n).length = 1 + s := by unfold natB; rw [List.length_cons, beB_length, HS.out]; omega
        omega
      · intro j b hj
        rw [cell_of_row wr w.heap.size j _ _ _ HA.out]
        cases j with
        | zero =>
          have : b = UInt8.ofNat s := by unfold natB at hj; rw [HS.out] at hj; simpa using hj.symm
          rw [H0.out, this]
          simp
          omega
        | succ j =>
          unfold natB at hj
          rw [HS.out, List.getElem?_cons_succ] at hj
          have hjs : j < s := by
            have := (List.getElem?_eq_some_iff.1 hj).1
            rwa [beB_length] at this
          rw [HR.out (j + 1) (by omega) (by omega)]
          rw [beB_at hjs] at hj
          have hb := Option.some.inj hj
          rw [← hb, show s - (j + 1) = s - 1 - j from by omega]
          simp
      · intro j hj
        obtain ⟨x, hx⟩ := HALL.out j hj
        exact ⟨by rw [cell_of_row wr w.heap.size j _ _ _ HA.out, hx]; rfl, free0 HA.out j⟩
    | succ k =>
      obtain ⟨x0, hx0⟩ := hall (k + 1) (by omega)
      have c0 := (cell_of_row wr w.heap.size (k + 1) _ _ _ harr).trans hx0
      have f0 := free0 harr (k + 1)
      have hk9 : ((k : Int) + 1) < 9 := by omega
      clear hm harr h0 hall hrest hb hsz hx0
      go_wp2
      go_roundw
      case rel =>
        refine ⟨k, by omega, rfl, ?_, HB.out.setCell (Nat.le_refl _) _, arr.setIfInBounds (k + 1) (.int .u8 ((m : Int) % 256)), ?_, ?_, ?_, ?_, ?_⟩
        · have e : n / 256 ^ (s - k) = m / 256 := by
            rw [← HM.out, show s - k = (s - (k + 1)) + 1 from by omega, Nat.pow_succ, Nat.div_div_eq_div_mul]
          rw [e]
          rfl
        · simp [World.setCell, Array.getElem?_modify, HA.out]
        · simpa using HSZ.out
        · rw [Array.getElem?_setIfInBounds_ne (by omega)]; exact H0.out
        · intro j hj
          by_cases hjk : k + 1 = j
          · subst hjk
            exact ⟨_, by rw [Array.getElem?_setIfInBounds_self_of_lt (by rw [HSZ.out]; omega)]⟩
          · rw [Array.getElem?_setIfInBounds_ne hjk]; exact HALL.out j hj
        · intro j hj hjs
          by_cases hjk : k + 1 = j
          · subst hjk
            rw [Array.getElem?_setIfInBounds_self_of_lt (by rw [HSZ.out]; omega), HM.out]
            simp
          · rw [Array.getElem?_setIfInBounds_ne hjk]; exact HR.out j (by omega) hjs
      case measure => simp [RowKit.intOf] <;> omega
end Go.Proofs.YtkkembbeejlomaaGreatDoor

namespace Go.Proofs.YtkkembbeejlomaaGreatDoor
open Go.RowKit Go.Shelf Go.Lib

theorem src_own {w : World} {base : Nat} {v : Value} {l : List UInt8} (h : OwnBy w base v l) (hl : l ≠ []) : Src Tryz.prog 1 39 v l.length (bc l) w := by
  rcases h with ⟨_, h⟩ | ⟨g, cap, rfl, h⟩
  · exact absurd h hl
  · exact Src.ofSlice _ Tryz.underlying39 ⟨g, 0, none⟩ l.length cap (bc l) (by simp [bc_length]) (fun j u hu => by
      obtain ⟨b, hb, rfl⟩ := bc_at hu
      rw [add0]; exact h.holds j b hb) (bc_one l)
theorem src_any {w : World} {base : Nat} {v : Value} {l : List UInt8} (h : OwnBy w base v l) : Src Tryz.prog 1 39 v l.length (bc l) w := by
  by_cases hl : l = []
  · subst hl
    rcases h with ⟨rfl, _⟩ | ⟨g, cap, rfl, h⟩
    · exact Src.ofNil w Tryz.underlying39 0
    · exact Src.ofSlice _ Tryz.underlying39 ⟨g, 0, none⟩ 0 cap [] rfl (fun j u hu => by simp at hu) (fun u hu => by cases hu)
  · exact src_own h hl
theorem OwnBy.mono {w : World} {base base' : Nat} {v : Value} {l : List UInt8} (h : OwnBy w base v l) (hb : base' ≤ base) : OwnBy w base' v l := by
  rcases h with h | ⟨g, cap, rfl, h⟩
  · exact .inl h
  · exact .inr ⟨g, cap, rfl, ⟨Nat.le_trans hb h.new, h.lt, h.le, h.max, h.holds, h.there⟩⟩
theorem OwnBy.len {w : World} {base : Nat} {v : Value} {l : List UInt8} (h : OwnBy w base v l) : ∃ A cap, v = .slice A l.length cap := by
  rcases h with ⟨rfl, rfl⟩ | ⟨g, cap, rfl, _⟩
  · exact ⟨_, _, rfl⟩
  · exact ⟨_, _, rfl⟩
def numN (m : Int) : Nat := if m < 0 then (2 * (-1 - m) + 1).toNat else (2 * m).toNat
set_option maxRecDepth 100000 in
set_option maxHeartbeats 1000000 in
theorem onum_any (m : Int) (h0 : -9223372036854775808 ≤ m) (h1 : m ≤ 9223372036854775807) (w : World) :
    Calls Tryz.prog 52 #[.int .i64 m] w fun e w' => ∃ v, e = .returned v ∧ OwnBy w' w.heap.size v (natB (numN m)) ∧ Below w.heap.size w w' := by
  have HN := Lib.hid (onat_any (numN m) (by unfold numN; split <;> omega) w)
  by_cases hm : m < 0
  · have HE : Hid ((numN m : Int) = 2 * (-1 - m) + 1) := by show (numN m : Int) = _; unfold numN; rw [if_pos hm]; omega
    go_enter Tryz.func52, Tryz.ntmps52
    go_wp2_with fail
    rw [show ((-1 - m) * 2 + 1 : Int) = (numN m : Int) from by rw [HE.out]; omega]
    refine (HN.out).mono ?_
    rintro e w1 ⟨v, rfl, hO, hB⟩
    have HO := Lib.hid hO
    have HB := Lib.hid hB
    clear hO hB
    go_wp2
    go_ret
    exact ⟨_, rfl, HO.out, HB.out⟩
  · have HE : Hid ((numN m : Int) = 2 * m) := by show (numN m : Int) = _; unfold numN; rw [if_neg hm]; omega
    have hm' : 0 ≤ m := by omega
    clear hm
    go_enter Tryz.func52, Tryz.ntmps52
    go_wp2_with fail
    rw [show (m * 2 : Int) = (numN m : Int) from by rw [HE.out]; omega]
    refine (HN.out).mono ?_
    rintro e w1 ⟨v, rfl, hO, hB⟩
    have HO := Lib.hid hO
    have HB := Lib.hid hB
    clear hO hB
    go_wp2
    go_ret
    exact ⟨_, rfl, HO.out, HB.out⟩

def strB (s : ByteArray) : List UInt8 := natB s.size ++ s.data.toList
theorem sizeB_le (n : Nat) (hn : n ≤ 18446744073709551615) : sizeB n ≤ 8 := by
  have := bitLen_le n hn
  unfold sizeB; omega
theorem natB_len (n : Nat) : (natB n).length = 1 + sizeB n := by unfold natB; rw [List.length_cons, beB_length]; omega
theorem OwnBy.rows {w : World} {base : Nat} {v : Value} {l : List UInt8} (h : OwnBy w base v l) : ∀ k, v.ownBlock = some k → base ≤ k := by
  intro k hk
  rcases h with ⟨rfl, _⟩ | ⟨g, cap, rfl, h⟩
  · simp [Value.ownBlock] at hk
  · have : g = k := by simpa [Value.ownBlock] using hk
    subst this
    exact h.new
set_option maxRecDepth 100000 in
set_option maxHeartbeats 1000000 in
theorem ostr_any (s : ByteArray) (hs : s.size ≤ 536870912) (w : World) :
    Calls Tryz.prog 51 #[.string s] w fun e w' => ∃ v, e = .returned v ∧ OwnBy w' w.heap.size v (strB s) ∧ Below w.heap.size w w' := by
  have HN := Lib.hid (onat_any s.size (by omega) w)
  have hz : (s.size : Int) ≤ 536870912 := by omega
  have hz0 : (0 : Int) ≤ (s.size : Int) := by omega
  go_enter Tryz.func51, Tryz.ntmps51
  go_wp2_with fail
  refine (HN.out).mono ?_
  rintro e w1 ⟨v, rfl, hO, hB⟩
  have HO := Lib.hid hO
  have HB := Lib.hid hB
  have src : Hid (Src Tryz.prog 1 9 (.string s) s.data.toList.length (bc s.data.toList) w1) := Src.ofString w1 Tryz.underlying9 s
  have hlen : (natB s.size).length + s.data.toList.length ≤ 1073741824 := by
    have := sizeB_le s.size (by omega)
    have h2 : s.data.toList.length = s.size := by simp
    rw [natB_len, h2]; omega
  have HL := Lib.hid hlen
  clear hO hB hlen
  go_wp2_with (at_builtin; refine wpList_append_by _ rfl _ _ 9 rfl w.heap.size (natB s.size) s.data.toList _ _ rfl rfl HO.out src.out HL.out HB.out.size ?_)
  intro v' w' hown hg
  have HO' := Lib.hid hown
  have HB' := Lib.hid (HB.out.grown hg HB.out.size HO.out.rows)
  clear hown hg
  go_wp2
  go_ret
  exact ⟨_, rfl, HO'.out, HB'.out⟩

/-- A slice value that reads as slices of bytes. -/
def PartsIs (w : World) (v : Value) (ls : List (List UInt8)) : Prop :=
  (v = .slice none 0 0 ∧ ls = []) ∨ ∃ b cap, v = .slice (some ⟨b, 0, none⟩) ls.length cap ∧ b < w.heap.size ∧ ls.length ≤ 1000 ∧ ∀ i l, ls[i]? = some l → l ≠ [] ∧ ∃ x, w.cell? ⟨b, i, none⟩ = some x ∧ OwnBy w 0 x l
set_option maxRecDepth 100000 in
set_option maxHeartbeats 2000000 in
theorem oseq_any {w : World} {v : Value} {ls : List (List UInt8)} (h : PartsIs w v ls) (hl : ls.flatten.length ≤ 536870912) :
    Calls Tryz.prog 50 #[v] w fun e w' => ∃ v, e = .returned v ∧ OwnBy w' w.heap.size v ls.flatten ∧ Below w.heap.size w w' := by
  rcases h with ⟨rfl, rfl⟩ | ⟨b, cap, rfl, hbl, hn, h6⟩
  · go_enter Tryz.func50, Tryz.ntmps50
    go_wp2
    refine wp_loop_rounds 1 ?_
    rw [rounds_succ]
    go_wp2
    go_ret
    exact ⟨_, rfl, .inl ⟨rfl, rfl⟩, Below.refl _ _⟩
  · have H6 := Lib.hid h6
    have HL := Lib.hid hl
    clear h6 hl
    go_enter Tryz.func50, Tryz.ntmps50
    go_wp2_with fail
    go_loopw [3, 8] (fun v i wr => ∃ k : Nat, k ≤ ls.length ∧ i = .int .i64 k ∧ OwnBy wr w.heap.size v (ls.take k).flatten ∧ Below w.heap.size w wr) (fun _ i _ => ls.length - (RowKit.intOf i).toNat)
    case atStart => exact ⟨0, by omega, rfl, .inl ⟨rfl, by simp⟩, Below.refl _ _⟩
    case round =>
      obtain ⟨k, hk, rfl, hown, hb⟩ := hrel
      by_cases hlt : k < ls.length
      · have hx : ls[k]? = some ls[k] := List.getElem?_eq_getElem hlt
        generalize hll : ls[k] = l at hx
        obtain ⟨hne, x, hc, hox⟩ := H6.out k l hx
        have c0 := (hb.cell (p := ⟨b, k, none⟩) hbl).trans hc
        have src := Lib.hid (src_own (hox.below hb) hne)
        have HX : Hid ((ls.take (k + 1)).flatten = (ls.take k).flatten ++ l) := by
          show (ls.take (k + 1)).flatten = (ls.take k).flatten ++ l
          rw [List.take_succ_eq_append_getElem hlt, hll, List.flatten_append]; simp
        have hlen : Hid ((ls.take k).flatten.length + l.length ≤ 1073741824) := by
          have h1 : (ls.take (k + 1)).flatten.length ≤ ls.flatten.length := by
            have : ls.flatten = (ls.take (k + 1)).flatten ++ (ls.drop (k + 1)).flatten := by rw [← List.flatten_append, List.take_append_drop]
            rw [this, List.length_append]; omega
          rw [HX.out, List.length_append] at h1
          have := HL.out
          show (ls.take k).flatten.length + l.length ≤ 1073741824
          omega
        have HB := Lib.hid hb
        have HO := Lib.hid hown
        obtain ⟨Ax, cx, rfl⟩ : ∃ Ax cx, x = .slice Ax l.length cx := by
          rcases hox with ⟨rfl, rfl⟩ | ⟨g, c, rfl, _⟩
          · exact ⟨_, _, rfl⟩
          · exact ⟨_, _, rfl⟩
        clear hx hb hown hc hox hll hne
        go_wp2_with (at_builtin; refine wpList_append_by _ rfl _ _ 39 rfl w.heap.size (ls.take k).flatten l _ _ rfl rfl HO.out src.out hlen.out HB.out.size ?_)
        intro v' w' hown hg
        have HO' := Lib.hid hown
        have HB' := Lib.hid (HB.out.grown hg HB.out.size HO.out.rows)
        clear hown hg
        go_wp2
        go_roundw
        case rel => exact ⟨k + 1, by omega, by go_num, by rw [HX.out]; exact HO'.out, HB'.out⟩
        case measure => simp [RowKit.intOf]; omega
      · obtain rfl : k = ls.length := by omega
        have HB := Lib.hid hb
        have HO := Lib.hid hown
        clear hb hown
        go_wp2
        go_ret
        refine ⟨_, rfl, ?_, HB.out⟩
        have := HO.out
        rw [List.take_length] at this
        exact this
end Go.Proofs.YtkkembbeejlomaaGreatDoor

namespace Go.Proofs.YtkkembbeejlomaaGreatDoor
open Go.RowKit Go.Shelf Go.Lib

theorem beB_cons (j n : Nat) : beB (j + 1) n = UInt8.ofNat (n / 256 ^ j % 256) :: beB j n := by
  induction j generalizing n with
  | zero => simp [beB]
  | succ j ih =>
    rw [beB, ih, beB, Nat.div_div_eq_div_mul, Nat.pow_succ, Nat.mul_comm 256]
    rfl
theorem sizeB_spec (n : Nat) (hn : n ≤ 18446744073709551615) (j : Nat) : j < sizeB n ↔ n / 256 ^ j ≠ 0 := by
  by_cases h0 : n = 0
  · subst h0
    have : sizeB 0 = 0 := by decide
    rw [this]; simp
  · have hb := Lib.bitLenAux_bounds 64 n (by omega) h0
    have e : 256 ^ j = 2 ^ (8 * j) := by rw [Nat.pow_mul]
    have hd : n / 256 ^ j ≠ 0 ↔ 256 ^ j ≤ n := by
      rw [Ne, Nat.div_eq_zero_iff]
      have : 0 < 256 ^ j := Nat.pow_pos (by omega)
      omega
    rw [hd, e]
    have hs : sizeB n = (Lib.bitLenAux 64 n + 7) / 8 := rfl
    rw [hs]
    constructor
    · intro h
      exact Nat.le_trans (Nat.pow_le_pow_right (by omega) (by omega)) hb.2.1
    · intro h
      have h1 : 2 ^ (8 * j) < 2 ^ Lib.bitLenAux 64 n := Nat.lt_of_le_of_lt h hb.2.2
      have h2 := (Nat.pow_lt_pow_iff_right (by omega : 1 < 2)).1 h1
      omega
end Go.Proofs.YtkkembbeejlomaaGreatDoor
