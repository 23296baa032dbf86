/- Rows of cells of one's own, whatever their elements; what a call may turn. Nothing here speaks of the program. Maps told by their entries: look-up, store, delete, length, range. Nothing here speaks of the program. Words for drawn regions that are walked by hand (expand.py writes them out for a claim); runs of operations as equations. The sum CRC-32C: eight steps of a byte, bit by bit, or by a table of sixteen; no two states become one. -/
import Derived.WalkKit
import Derived.Deep.AppendSrc
import Derived.Deep.Upon
import Derived.Room.Entries
import Derived.Lib.Hide
import Derived.OwnWalk
import Derived.Deep.QuietTactic
import Derived.Maps.RangeWalk
import Derived.Maps.OwnSet
import Derived.Maps.OwnOps
import Derived.Deep.RegionLaw
import Derived.Deep.CutBlock
import Derived.Deep.DeepCutAuto
import Derived.Deep.RegionHeld
import Derived.Laws.BitsAllLaws
set_option linter.unusedSimpArgs false
set_option linter.unusedVariables false
set_option linter.unnecessarySimpa false
namespace Go.Proofs.YtmbonngjkgcijaaGreatDoor
open Go.RowKit

theorem add0 (g n : Nat) : (⟨g, 0, none⟩ : Addr).add n = ⟨g, n, none⟩ := by
  unfold Addr.add
  split
  · subst n; rfl
  · simp
theorem add_block (a : Addr) (n : Nat) : (a.add n).block = a.block := by unfold Addr.add; split <;> rfl
theorem asz (w : World) (o : Obj) : (w.alloc o).heap.size = w.heap.size + 1 := Array.size_push _
theorem heap_lt {w : World} {b : Nat} {o : Obj} (h : w.heap[b]? = some o) : b < w.heap.size := by
  rcases Nat.lt_or_ge b w.heap.size with h1 | h1
  · exact h1
  · rw [Array.getElem?_eq_none h1] at h; cases h
theorem below_new {w : World} (o : Obj) : Below w.heap.size w (w.alloc o) := (Below.refl _ _).alloc (Nat.le_refl _) _
theorem below_drewN {B : Nat} {a w : World} (h : Below B a w) (n : Nat) : Below B a (w.drewN n) := ⟨h.os, h.tape, h.output, h.size, h.block⟩
theorem below_drew {B : Nat} {a w : World} (h : Below B a w) : Below B a w.drew := ⟨h.os, h.tape, h.output, h.size, h.block⟩
theorem free0 {W : World} {b : Nat} {cs : Array Value} {t : TypeId} (h : W.heap[b]? = some (.cells cs t (0, 0))) (i : Nat) : W.frozen? ⟨b, i, none⟩ = false := by
  simp [World.frozen?, h]
theorem cell_of {W : World} {b : Nat} {cs : Array Value} {t : TypeId} {fr : Nat × Nat} (h : W.heap[b]? = some (.cells cs t fr)) (i : Nat) : W.cell? ⟨b, i, none⟩ = cs[i]? := by
  simp [World.cell?, h]
theorem set_at {W : World} {b : Nat} {cs : Array Value} {t : TypeId} {fr : Nat × Nat} (h : W.heap[b]? = some (.cells cs t fr)) (i : Nat) (v : Value) : (W.setCell ⟨b, i, none⟩ v).heap[b]? = some (.cells (cs.setIfInBounds i v) t fr) := by
  have hb := heap_lt h
  have : W.heap[b] = .cells cs t fr := Option.some.inj ((Array.getElem?_eq_getElem hb).symm.trans h)
  simp [World.setCell, Array.getElem?_modify, h]
theorem alloc_at (W : World) (o : Obj) : (W.alloc o).heap[W.heap.size]? = some o := by
  show (W.heap.push o)[W.heap.size]? = _
  rw [Array.getElem?_push, if_pos rfl]

/-! what a call may turn -/
/-- What lay in w outside of S lies in w'. -/
structure Touch (S : Nat → Prop) (w w' : World) : Prop where
  os : w'.os = w.os
  tape : w'.tape = w.tape
  output : w'.output = w.output
  size : w.heap.size ≤ w'.heap.size
  block : ∀ k, k < w.heap.size → ¬ S k → w'.heap[k]? = w.heap[k]?
theorem Touch.refl (S : Nat → Prop) (w : World) : Touch S w w := ⟨rfl, rfl, rfl, Nat.le_refl _, fun _ _ _ => rfl⟩
theorem Touch.of_below {S : Nat → Prop} {w w' : World} (h : Below w.heap.size w w') : Touch S w w' := ⟨h.os, h.tape, h.output, h.size, fun k hk _ => h.block k hk⟩
theorem Touch.trans {S T : Nat → Prop} {a b c : World} (h : Touch S a b) (k : Touch T b c) (hT : ∀ i, i < a.heap.size → T i → S i) : Touch S a c :=
  ⟨k.os.trans h.os, k.tape.trans h.tape, k.output.trans h.output, Nat.le_trans h.size k.size, fun i hi hs => (k.block i (Nat.lt_of_lt_of_le hi h.size) (fun ht => hs (hT i hi ht))).trans (h.block i hi hs)⟩
theorem Touch.mono {S T : Nat → Prop} {a b : World} (h : Touch S a b) (hT : ∀ i, i < a.heap.size → S i → T i) : Touch T a b := ⟨h.os, h.tape, h.output, h.size, fun i hi ht => h.block i hi (fun hs => ht (hT i hi hs))⟩
theorem Touch.below {S : Nat → Prop} {B : Nat} {a b : World} (h : Touch S a b) (hS : ∀ i, S i → B ≤ i) (hB : B ≤ a.heap.size) : Below B a b :=
  ⟨h.os, h.tape, h.output, h.size, fun i hi => h.block i (by omega) (fun hs => by have := hS i hs; omega)⟩
theorem Touch.after {S : Nat → Prop} {a b c : World} (h : Touch S a b) (k : Below b.heap.size b c) : Touch S a c := h.trans (T := fun _ => False) (.of_below k) (fun _ _ h => h.elim)
theorem Touch.drew {S : Nat → Prop} {a b : World} (h : Touch S a b) : Touch S a b.drew := ⟨h.os, h.tape, h.output, h.size, h.block⟩
theorem Touch.setCell {S : Nat → Prop} {a b : World} (h : Touch S a b) (p : Addr) (hp : p.block < a.heap.size → S p.block) (u : Value) : Touch S a (b.setCell p u) :=
  ⟨h.os, h.tape, h.output, by simpa [World.setCell] using h.size, fun k hk hs => (Below.heap_setCell _ _ _ _ (fun e => hs (by rw [e]; exact hp (by rw [← e]; exact hk)))).trans (h.block k hk hs)⟩
theorem Touch.alloc {S : Nat → Prop} {a b : World} (h : Touch S a b) (o : Obj) : Touch S a (b.alloc o) := h.after (below_new o)
theorem Touch.grown {S : Nat → Prop} {a b c : World} {row : Option Nat} (h : Touch S a b) (hg : b.grownBy c row) (hr : ∀ k, row = some k → k < a.heap.size → S k) : Touch S a c :=
  ⟨hg.os.trans h.os, hg.tape.trans h.tape, hg.output.trans h.output, Nat.le_trans h.size hg.size, fun k hk hs => (hg.block k (Nat.lt_of_lt_of_le hk h.size) (fun e => hs (hr k e.symm hk))).trans (h.block k hk hs)⟩
theorem Touch.set {S : Nat → Prop} {a b : World} (h : Touch S a b) (r : Nat) (o : Obj) (hr : r < a.heap.size → S r) : Touch S a { b with heap := b.heap.setIfInBounds r o } :=
  ⟨h.os, h.tape, h.output, by simpa using h.size, fun k hk hs => by
    have hne : r ≠ k := fun e => hs (by rw [← e]; exact hr (by rw [e]; exact hk))
    show (b.heap.setIfInBounds r o)[k]? = _
    rw [Array.getElem?_setIfInBounds_ne hne]
    exact h.block k hk hs⟩

/-! rows of one's own -/
/-- The cells l, at the head of block g, of which so many elements of z cells there is room for. -/
structure RowC (w : World) (z g cap : Nat) (l : List Value) : Prop where
  lt : g < w.heap.size
  le : l.length ≤ cap * z
  max : cap ≤ maxLen
  holds : ∀ (j : Nat) (b : Value), l[j]? = some b → w.cell? ⟨g, j, none⟩ = some b
  there : ∀ j, j < cap * z → (w.cell? ⟨g, j, none⟩).isSome = true ∧ w.frozen? ⟨g, j, none⟩ = false
/-- A slice of n elements of z cells each, in a block of one's own, or nil. -/
def RowIs (w : World) (z : Nat) (v : Value) (n : Nat) (l : List Value) : Prop :=
  (v = .slice none 0 0 ∧ n = 0 ∧ l = []) ∨ ∃ g cap, v = .slice (some ⟨g, 0, none⟩) n cap ∧ l.length = n * z ∧ n ≤ cap ∧ RowC w z g cap l
theorem RowC.keep {w w' : World} {z g cap : Nat} {l : List Value} (h : RowC w z g cap l) (hs : w.heap.size ≤ w'.heap.size) (hk : w'.heap[g]? = w.heap[g]?) : RowC w' z g cap l :=
  ⟨Nat.lt_of_lt_of_le h.lt hs, h.le, h.max, fun j b hj => by rw [World.cell?_of_block (a := ⟨g, j, none⟩) hk]; exact h.holds j b hj, fun j hj => by rw [World.cell?_of_block (a := ⟨g, j, none⟩) hk, World.frozen?_of_block (a := ⟨g, j, none⟩) hk]; exact h.there j hj⟩
theorem RowIs.keep {w w' : World} {z : Nat} {v : Value} {n : Nat} {l : List Value} (h : RowIs w z v n l) (hs : w.heap.size ≤ w'.heap.size) (hk : ∀ g, v.ownBlock = some g → w'.heap[g]? = w.heap[g]?) : RowIs w' z v n l := by
  rcases h with h | ⟨g, cap, rfl, h1, h2, h⟩
  · exact .inl h
  · exact .inr ⟨g, cap, rfl, h1, h2, h.keep hs (hk g rfl)⟩
theorem RowIs.lt {w : World} {z : Nat} {v : Value} {n : Nat} {l : List Value} (h : RowIs w z v n l) : ∀ g, v.ownBlock = some g → g < w.heap.size := by
  intro k hk
  rcases h with ⟨rfl, _⟩ | ⟨g, cap, rfl, _, _, h⟩
  · cases hk
  · cases hk; exact h.lt
theorem RowIs.below {w w' : World} {z : Nat} {v : Value} {n : Nat} {l : List Value} (h : RowIs w z v n l) (hb : Below w.heap.size w w') : RowIs w' z v n l := h.keep hb.size (fun g hg => hb.block g (h.lt g hg))
theorem RowIs.touch {S : Nat → Prop} {w w' : World} {z : Nat} {v : Value} {n : Nat} {l : List Value} (h : RowIs w z v n l) (hb : Touch S w w') (hS : ∀ g, v.ownBlock = some g → ¬ S g) : RowIs w' z v n l := h.keep hb.size (fun g hg => hb.block g (h.lt g hg) (hS g hg))
theorem RowIs.nil (w : World) (z : Nat) : RowIs w z (.slice none 0 0) 0 [] := .inl ⟨rfl, rfl, rfl⟩
theorem RowIs.len {w : World} {z : Nat} {v : Value} {n : Nat} {l : List Value} (h : RowIs w z v n l) : l.length = n * z := by
  rcases h with ⟨_, rfl, rfl⟩ | ⟨_, _, _, h, _⟩
  · simp
  · exact h
theorem RowIs.form {w : World} {z : Nat} {v : Value} {n : Nat} {l : List Value} (h : RowIs w z v n l) : ∃ A cap, v = .slice A n cap ∧ n ≤ cap ∧ cap ≤ maxLen ∧ (A = none → n = 0 ∧ cap = 0) ∧ (∀ a, A = some a → ∃ g, a = ⟨g, 0, none⟩ ∧ v.ownBlock = some g) ∧ ∀ j u, l[j]? = some u → ∃ g, A = some ⟨g, 0, none⟩ ∧ w.cell? ⟨g, j, none⟩ = some u := by
  rcases h with ⟨rfl, rfl, rfl⟩ | ⟨g, cap, rfl, h1, h2, h⟩
  · exact ⟨none, 0, rfl, Nat.le_refl _, by unfold maxLen; omega, fun _ => ⟨rfl, rfl⟩, (fun a h => by cases h), (fun j u hu => by simp at hu)⟩
  · exact ⟨_, cap, rfl, h2, h.max, (fun h => by cases h), (fun a e => ⟨g, (Option.some.inj e).symm, rfl⟩), (fun j u hu => ⟨g, rfl, h.holds j u hu⟩)⟩
theorem setCells_tape (g : Nat) : ∀ (vs : List Value) (o : Nat) (w : World), (w.setCells g o vs).tape = w.tape ∧ (w.setCells g o vs).heap.size = w.heap.size
  | [], _, _ => ⟨rfl, rfl⟩
  | v :: r, o, w => by
    have := setCells_tape g r (o + 1) (w.setCell ⟨g, o, none⟩ v)
    exact ⟨this.1, this.2.trans (by simp [World.setCell])⟩

/-- append onto a row of one's own: the new row lies in the old one's block or in a new one. -/
theorem run_append_row {P : Program} (w : World) (T E ty tx : TypeId) (hT : P.underlying T = some (.slice E)) {zv : Value} {z by' : Nat} (hE : (P.info? E).map (fun i => (i.zero, i.size, i.bytes)) = some (some zv, z, by')) (hzv : zv.cells.size = z) (hz0 : 0 < z) (hby : by' ≤ 1024)
    (v : Value) (n m : Nat) (l ms : List Value) (x : Value) (hown : RowIs w z v n l) (hs : Src P z tx x m ms w) (hlen : n + m ≤ 16777216) :
    ∃ v' w', (Builtin.append_ #[T, tx] ty #[v, x]).run P w = .ok v' w' ∧ RowIs w' z v' (n + m) (l ++ ms) ∧ w.grownBy w' v.ownBlock ∧ (v'.ownBlock = v.ownBlock ∨ v'.ownBlock = some w.heap.size) := by
  obtain ⟨i0, hi, hzz, hz1, hz2⟩ := info_parts hE
  have hs' : Src P i0.size tx x m ms w := by rw [hz1]; exact hs
  have hl := hown.len
  have hml := hs.newsLen
  have grow : ∀ (A : Option Addr) (sCap : Nat), (Builtin.firstCells i0.size n (.slice A n sCap)).run P w.drew = .ok l.toArray w.drew → sCap < n + m →
      ∃ v' w', (Builtin.append_ #[T, tx] ty #[.slice A n sCap, x]).run P w = .ok v' w' ∧ RowIs w' z v' (n + m) (l ++ ms) ∧ w.grownBy w' (Value.slice A n sCap).ownBlock ∧ (v'.ownBlock = (Value.slice A n sCap).ownBlock ∨ v'.ownBlock = some w.heap.size) := by
    intro A sCap hold hg
    have hfit : Builtin.nextslicecap (n + m) sCap * i0.bytes ≤ 281474976710656 := by
      have h1 := Go.Room.nextslicecap_le' hg
      rw [hz2]
      exact Nat.le_trans (Nat.mul_le_mul h1 hby) (by omega)
    have hr := run_append_grow_src (P := P) w T tx ty E i0 _ hT hi hzz A n sCap l hold x m ms hs' hg (by omega) hfit
    have hge := grownCap_ge w (n + m) sCap E
    have hle := grownCap_le_maxLen w (n + m) sCap E (by unfold maxLen; omega)
    have hlc : (l ++ ms).length = (n + m) * z := by rw [List.length_append, hl, hml, Nat.add_mul]
    refine ⟨_, _, hr, .inr ⟨w.heap.size, grownCap w (n + m) sCap E, rfl, hlc, hge, ?_⟩, ⟨rfl, rfl, rfl, by simp, fun k hk _ => by rw [Below.heap_alloc _ _ k (by simpa using hk)]; rfl⟩, .inr rfl⟩
    have hblk : (w.drew.alloc (.cells ((l ++ ms).toArray ++ Builtin.zeroCells zv.cells (grownCap w (n + m) sCap E - (n + m))) E)).heap[w.heap.size]? = some (.cells ((l ++ ms).toArray ++ Builtin.zeroCells zv.cells (grownCap w (n + m) sCap E - (n + m))) E (0, 0)) := heap_alloc_new w.drew _
    refine ⟨by simp, by rw [hlc]; exact Nat.mul_le_mul_right _ hge, hle, fun j b hj => ?_, fun j hj => ?_⟩
    · rw [cell_of_row _ _ _ _ _ _ hblk]
      rw [Array.getElem?_append_left (by simpa using (List.getElem?_eq_some_iff.1 hj).1)]
      simpa using hj
    · constructor
      · rw [cell_of_row _ _ _ _ _ _ hblk]
        have hsz : j < ((l ++ ms).toArray ++ Builtin.zeroCells zv.cells (grownCap w (n + m) sCap E - (n + m))).size := by
          rw [Array.size_append, size_zeroCells, List.size_toArray, hlc, hzv, ← Nat.add_mul, Nat.add_sub_cancel' hge]
          exact hj
        rw [Array.getElem?_eq_getElem hsz]; rfl
      · exact free0 hblk j
  rcases hown with ⟨rfl, rfl, rfl⟩ | ⟨g, cap, rfl, h1, h2, ho⟩
  · by_cases hz : m = 0
    · subst hz
      obtain rfl : ms = [] := List.eq_nil_of_length_eq_zero (by omega)
      exact ⟨.slice none 0 0, w, run_append_nothing w T tx ty E i0 hT hi none 0 0 (Nat.le_refl _) x hs', .inl ⟨rfl, rfl, rfl⟩, ⟨rfl, rfl, rfl, Nat.le_refl _, fun _ _ _ => rfl⟩, .inl rfl⟩
    · exact grow none 0 (by simp [Builtin.firstCells]) (by omega)
  · by_cases hroom : n + m ≤ cap
    · have hrz : n * z + m * z ≤ cap * z := by rw [← Nat.add_mul]; exact Nat.mul_le_mul_right _ hroom
      have hr := run_append_room_src (P := P) w T tx ty E i0 hT hi g 0 n cap x m ms hs' hroom
        (by rw [hz1]; intro j hj; have := (ho.there (n * z + j) (by omega)).1; simpa using this) (by rw [hz1]; intro j hj; have := (ho.there (n * z + j) (by omega)).2; simpa using this)
      rw [hz1] at hr
      have e0 : 0 + n * z = l.length := by omega
      rw [e0] at hr
      have hkb := World.keptBut_setCells g (may := fun p => p.block = g) ms l.length w (fun _ _ => rfl)
      refine ⟨_, _, hr, .inr ⟨g, cap, rfl, by rw [List.length_append, hl, hml, Nat.add_mul], hroom, ?_⟩, ⟨hkb.1, (setCells_tape g ms l.length w).1, hkb.2.1, Nat.le_of_eq (setCells_tape g ms l.length w).2.symm, fun k hk hne => hkb.block hk (fun p hp e => hne (by rw [← e, hp]; rfl))⟩, .inl rfl⟩
      have hex : ∀ j, j < ms.length → (w.cell? ⟨g, l.length + j, none⟩).isSome = true := fun j hj => (ho.there (l.length + j) (by omega)).1
      refine ⟨by rw [(setCells_tape g ms l.length w).2]; exact ho.lt, by rw [List.length_append]; omega, ho.max, fun j b hj => ?_, fun j hj => ⟨?_, ?_⟩⟩
      · by_cases hjl : j < l.length
        · rw [World.cell?_setCells_out g ms l.length w ⟨g, j, none⟩ (fun _ _ => .inl hjl)]
          exact ho.holds j b (by rwa [List.getElem?_append_left hjl] at hj)
        · rw [List.getElem?_append_right (by omega)] at hj
          have h2 : j - l.length < ms.length := (List.getElem?_eq_some_iff.1 hj).1
          have h3 := World.cell?_setCells_in g ms l.length w hex (j - l.length) h2
          rw [show l.length + (j - l.length) = j from by omega] at h3
          rw [h3, (List.getElem?_eq_some_iff.1 hj).2]
      · by_cases hin : l.length ≤ j ∧ j < l.length + ms.length
        · have h3 := World.cell?_setCells_in g ms l.length w hex (j - l.length) (by omega)
          rw [show l.length + (j - l.length) = j from by omega] at h3
          rw [h3]; rfl
        · rw [World.cell?_setCells_out g ms l.length w ⟨g, j, none⟩ (fun _ _ => by simp only; omega)]
          exact (ho.there j hj).1
      · rw [World.frozen?_setCells]; exact (ho.there j hj).2
    · exact grow (some ⟨g, 0, none⟩) cap (by rw [hz1]; exact run_firstCells_some w.drew z n ⟨g, 0, none⟩ n cap l hl (fun j u hu => by
        rw [add0]; exact ho.holds j _ hu)) (by omega)

/-- the same, as an arm of a walk -/
theorem wpList_append_row {P : Program} (T E : TypeId) (hT : P.underlying T = some (.slice E)) {zv : Value} {z by' : Nat} (hE : (P.info? E).map (fun i => (i.zero, i.size, i.bytes)) = some (some zv, z, by')) (hzv : zv.cells.size = z) (hz0 : 0 < z) (hby : by' ≤ 1024)
    (w : World) {ops : Array Oper} {rest : List Oper} {o : Oper} {a : Act} {Q : Exit → Act → World → Prop} (hgd : o.guard = none) (s x : Operand) (tx : TypeId)
    (ho : o.op = .call { callee := .builtin .append, args := #[s, x], argTypes := #[T, tx] })
    (n m : Nat) (l ms : List Value) (v y : Value) (hs : a.eval s = v) (hx : a.eval x = y) (hown : RowIs w z v n l) (hsrc : Src P z tx y m ms w) (hlen : n + m ≤ 16777216)
    (h : ∀ v' w', RowIs w' z v' (n + m) (l ++ ms) → w.grownBy w' v.ownBlock → (v'.ownBlock = v.ownBlock ∨ v'.ownBlock = some w.heap.size) → wpList P ops Q rest (a.put o.dst v') w') : wpList P ops Q (o :: rest) a w :=
  wpList_plain hgd fun K hK => by
    obtain ⟨v', w', hr, h2, h3, h4⟩ := run_append_row w T E o.type tx hT hE hzv hz0 hby v n m l ms y hown hsrc hlen
    unfold Oper.wp execOp
    simp only [ho, resolve, invoke, builtin, Sem.run_bind, Sem.run_pure, Result.andThen_ok, List.map_toArray, List.map_cons, List.map_nil, hs, hx, hr]
    exact hK _ _ (h v' w' h2 h3 h4)
end Go.Proofs.YtmbonngjkgcijaaGreatDoor

namespace Go.Proofs.YtmbonngjkgcijaaGreatDoor
open Go.RowKit
open Go.Maps (Keyed)

/-- Block r is a map of these entries: each key is one of type K, no key and no stamp twice, each stamp below the clock. -/
structure MapIs (P : Program) (K : TypeId) (w : World) (r : Nat) (L : List MapEntry) (clock : Nat) : Prop where
  at_ : w.heap[r]? = some (.map L.toArray clock)
  keys : ∀ e ∈ L, ∃ l, keyOf P K e.key = some l
  one : (L.map (·.key)).Nodup
  born : ∀ e ∈ L, e.born < clock
  apart : (L.map (·.born)).Nodup

section
variable {P : Program} {K E M : TypeId} {w : World} {r : Nat} {L : List MapEntry} {clock : Nat}
theorem MapIs.keep {w' : World} (h : MapIs P K w r L clock) (hk : w'.heap[r]? = w.heap[r]?) : MapIs P K w' r L clock := ⟨hk.trans h.at_, h.keys, h.one, h.born, h.apart⟩
theorem MapIs.lt (h : MapIs P K w r L clock) : r < w.heap.size := heap_lt h.at_
theorem MapIs.made (P : Program) (K : TypeId) (w : World) : MapIs P K (w.alloc (.map #[] 0)) w.heap.size [] 0 := ⟨alloc_at w _, (fun e he => by cases he), List.nodup_nil, (fun e he => by cases he), List.nodup_nil⟩
theorem MapIs.inj (h : MapIs P K w r L clock) {i j : Nat} {a b : MapEntry} (ha : L[i]? = some a) (hb : L[j]? = some b) (hk : a.key = b.key) : i = j := by
  have hi := (List.getElem?_eq_some_iff.1 ha)
  have hj := (List.getElem?_eq_some_iff.1 hb)
  obtain ⟨hi, rfl⟩ := hi
  obtain ⟨hj, rfl⟩ := hj
  exact (List.getElem_inj (h₀ := by simpa using hi) (h₁ := by simpa using hj) h.one).1 (by simpa using hk)
theorem MapIs.find_hit (h : MapIs P K w r L clock) (KK : Keyed P K) {x : Value} {lx : Lit} (hx : keyOf P K x = some lx) {j : Nat} {e : MapEntry} (hj : L[j]? = some e) (he : e.key = x) (w' : World) : (Instr.findKey K x L).run P w' = .ok (some (j, e.val)) w' := by
  rcases KK.find w' hx L h.keys with ⟨_, h2⟩ | ⟨i, e', h1, h2, h3⟩
  · exact absurd he (h2 e (List.mem_of_getElem? hj))
  · obtain rfl : i = j := h.inj h2 hj (h3.trans he.symm)
    rw [hj] at h2
    cases h2
    exact h1
theorem MapIs.find_miss (h : MapIs P K w r L clock) (KK : Keyed P K) {x : Value} {lx : Lit} (hx : keyOf P K x = some lx) (hn : ∀ e ∈ L, e.key ≠ x) (w' : World) : (Instr.findKey K x L).run P w' = .ok none w' := by
  rcases KK.find w' hx L h.keys with ⟨h1, _⟩ | ⟨i, e', h1, h2, h3⟩
  · exact h1
  · exact absurd h3 (hn e' (List.mem_of_getElem? h2))

theorem MapIs.look_hit (h : MapIs P K w r L clock) (KK : Keyed P K) (hM : P.underlying M = some (.map K E)) {x : Value} {lx : Lit} (hx : keyOf P K x = some lx) {j : Nat} {e : MapEntry} (hj : L[j]? = some e) (he : e.key = x) (c : Bool) :
    (Instr.lookup M (.map (some r)) x c).run P w = .ok (if c then .tuple #[e.val, .bool true] else e.val) w := by
  simp [Instr.lookup, run_underlying hM, MapKept.run_getObj_map h.at_, KK.check w _ hx, h.find_hit KK hx hj he, Result.andThen]
theorem MapIs.look_miss (h : MapIs P K w r L clock) (KK : Keyed P K) (hM : P.underlying M = some (.map K E)) {z : Value} (hz : (zeroValue E).run P w = .ok z w) {x : Value} {lx : Lit} (hx : keyOf P K x = some lx) (hn : ∀ e ∈ L, e.key ≠ x) (c : Bool) :
    (Instr.lookup M (.map (some r)) x c).run P w = .ok (if c then .tuple #[z, .bool false] else z) w := by
  simp [Instr.lookup, run_underlying hM, MapKept.run_getObj_map h.at_, KK.check w _ hx, h.find_miss KK hx hn, hz, Result.andThen]

theorem nodup_set {α : Type} {l : List α} {j : Nat} {x : α} (h : l.Nodup) (hx : l[j]? = some x) : l.set j x = l := by
  refine List.ext_getElem? fun i => ?_
  rw [List.getElem?_set]
  split
  · subst i
    have := (List.getElem?_eq_some_iff.1 hx).1
    rw [if_pos this, hx]
  · rfl
theorem map_set' {α β : Type} (f : α → β) (l : List α) (j : Nat) (x : α) : (l.set j x).map f = (l.map f).set j (f x) := by
  refine List.ext_getElem? fun i => ?_
  simp only [List.getElem?_map, List.getElem?_set, List.length_map]
  split
  · split <;> rfl
  · rfl
theorem list_modify (l : List MapEntry) (j : Nat) (f : MapEntry → MapEntry) {e : MapEntry} (hj : l[j]? = some e) : l.modify j f = l.set j (f e) := by
  refine List.ext_getElem? fun i => ?_
  have hjl := (List.getElem?_eq_some_iff.1 hj).1
  rw [List.getElem?_modify, List.getElem?_set]
  split
  · subst i; rw [hj]; rfl
  · simp
theorem MapIs.put_hit (h : MapIs P K w r L clock) (KK : Keyed P K) (hM : P.underlying M = some (.map K E)) {x v : Value} {lx : Lit} (hx : keyOf P K x = some lx) {j : Nat} {e : MapEntry} (hj : L[j]? = some e) (he : e.key = x) :
    (Instr.mapUpdate M (.map (some r)) x v).run P w = .ok () { w with heap := w.heap.setIfInBounds r (.map (L.set j { e with val := v }).toArray clock) } ∧
    MapIs P K { w with heap := w.heap.setIfInBounds r (.map (L.set j { e with val := v }).toArray clock) } r (L.set j { e with val := v }) clock := by
  have hjl := (List.getElem?_eq_some_iff.1 hj).1
  have hin : e ∈ L := List.mem_of_getElem? hj
  have hmod := list_modify L j (fun e => { e with key := x, val := v }) hj
  have he' : ({ e with key := x, val := v } : MapEntry) = { e with val := v } := by rw [← he]
  constructor
  · have hst := KK.stays w hx
    simp [Instr.mapUpdate, run_underlying hM, MapKept.run_getObj_map h.at_, KK.check w _ hx, h.find_hit KK hx hj he, hj, he, hst, MapKept.run_setObj_map _ h.at_, Result.andThen]
    rw [hmod, ← he]
  · refine ⟨by simp [h.lt], fun y hy => ?_, ?_, fun y hy => ?_, ?_⟩
    · rcases List.mem_or_eq_of_mem_set hy with hy | rfl
      · exact h.keys y hy
      · exact h.keys e hin
    · rw [map_set', nodup_set h.one (by rw [List.getElem?_map, hj]; rfl)]; exact h.one
    · rcases List.mem_or_eq_of_mem_set hy with hy | rfl
      · exact h.born y hy
      · exact h.born e hin
    · rw [map_set', nodup_set h.apart (by rw [List.getElem?_map, hj]; rfl)]; exact h.apart
theorem MapIs.put_miss (h : MapIs P K w r L clock) (KK : Keyed P K) (hM : P.underlying M = some (.map K E)) {x v : Value} {lx : Lit} (hx : keyOf P K x = some lx) (hn : ∀ e ∈ L, e.key ≠ x) :
    (Instr.mapUpdate M (.map (some r)) x v).run P w = .ok () { w with heap := w.heap.setIfInBounds r (.map (L ++ [(⟨x, v, clock⟩ : MapEntry)]).toArray (clock + 1)) } ∧
    MapIs P K { w with heap := w.heap.setIfInBounds r (.map (L ++ [(⟨x, v, clock⟩ : MapEntry)]).toArray (clock + 1)) } r (L ++ [(⟨x, v, clock⟩ : MapEntry)]) (clock + 1) := by
  constructor
  · simp [Instr.mapUpdate, run_underlying hM, MapKept.run_getObj_map h.at_, KK.check w _ hx, h.find_miss KK hx hn, MapKept.run_setObj_map _ h.at_, Result.andThen]
  · refine ⟨by simp [h.lt], fun y hy => ?_, ?_, fun y hy => ?_, ?_⟩
    · rcases List.mem_append.1 hy with hy | hy
      · exact h.keys y hy
      · rw [List.mem_singleton.1 hy]; exact ⟨lx, hx⟩
    · rw [List.map_append, List.nodup_append]
      refine ⟨h.one, by simp, fun a ha b hb => ?_⟩
      obtain ⟨e, he, rfl⟩ := List.mem_map.1 ha
      obtain rfl : b = x := by simpa using hb
      exact hn e he
    · rcases List.mem_append.1 hy with hy | hy
      · have := h.born y hy; omega
      · rw [List.mem_singleton.1 hy]; exact Nat.lt_succ_self _
    · rw [List.map_append, List.nodup_append]
      refine ⟨h.apart, by simp, fun a ha b hb => ?_⟩
      obtain ⟨e, he, rfl⟩ := List.mem_map.1 ha
      obtain rfl : b = clock := by simpa using hb
      exact Nat.ne_of_lt (h.born e he)
theorem MapIs.del_hit (h : MapIs P K w r L clock) (KK : Keyed P K) (hM : P.underlying M = some (.map K E)) (ty : TypeId) {x : Value} {lx : Lit} (hx : keyOf P K x = some lx) {j : Nat} {e : MapEntry} (hj : L[j]? = some e) (he : e.key = x) :
    (Builtin.delete_ #[M, K] ty #[.map (some r), x]).run P w = .ok (.tuple #[]) { w with heap := w.heap.setIfInBounds r (.map (L.eraseIdx j).toArray clock) } ∧
    MapIs P K { w with heap := w.heap.setIfInBounds r (.map (L.eraseIdx j).toArray clock) } r (L.eraseIdx j) clock := by
  have hjl := (List.getElem?_eq_some_iff.1 hj).1
  have hsub := List.eraseIdx_sublist L j
  constructor
  · have her : L.toArray.eraseIdxIfInBounds j = (L.eraseIdx j).toArray := by
      unfold Array.eraseIdxIfInBounds
      rw [dif_pos (by simpa using hjl)]
      apply Array.ext'
      simp
    simp [Builtin.delete_, run_underlying hM, MapKept.run_getObj_map h.at_, KK.check w _ hx, h.find_hit KK hx hj he, her, MapKept.run_setObj_map _ h.at_, Result.andThen]
  · exact ⟨by simp [h.lt], fun y hy => h.keys y (hsub.subset hy), (hsub.map _).nodup h.one, fun y hy => h.born y (hsub.subset hy), (hsub.map _).nodup h.apart⟩
end

/-! at the operation, for the walk -/
section
variable {P : Program} (w : World) {ops : Array Oper} {rest : List Oper} {o : Oper} {a : Act} {Q : Exit → Act → World → Prop}
theorem wpList_put_hit (hg : o.guard = none) (m x v : Operand) (M : TypeId) (hop : o.op = Op.mapUpdate M m x v) {K E : TypeId} (KK : Keyed P K) (hM : P.underlying M = some (.map K E)) {r clock : Nat} {L : List MapEntry} (h : MapIs P K w r L clock)
    (hm : a.eval m = .map (some r)) (key : Value) (lx : Lit) (hx : a.eval x = key) (hkey : keyOf P K key = some lx) (val : Value) (hv : a.eval v = val) {j : Nat} {e : MapEntry} (hj : L[j]? = some e) (he : e.key = key)
    (hK : ∀ w', w' = { w with heap := w.heap.setIfInBounds r (.map (L.set j { e with val := val }).toArray clock) } → MapIs P K w' r (L.set j { e with val := val }) clock → wpList P ops Q rest (a.put o.dst undef) w') : wpList P ops Q (o :: rest) a w := by
  refine wpList_plain hg fun K' hK' => ?_
  obtain ⟨h1, h2⟩ := h.put_hit KK hM (v := val) hkey hj he
  unfold Oper.wp
  simp only [execOp, hop, hm, hx, hv, Sem.run_bind, h1, Result.andThen]
  exact hK' _ _ (hK _ rfl h2)
theorem wpList_put_miss (hg : o.guard = none) (m x v : Operand) (M : TypeId) (hop : o.op = Op.mapUpdate M m x v) {K E : TypeId} (KK : Keyed P K) (hM : P.underlying M = some (.map K E)) {r clock : Nat} {L : List MapEntry} (h : MapIs P K w r L clock)
    (hm : a.eval m = .map (some r)) (key : Value) (lx : Lit) (hx : a.eval x = key) (hkey : keyOf P K key = some lx) (val : Value) (hv : a.eval v = val) (hn : ∀ e ∈ L, e.key ≠ key)
    (hK : ∀ w', w' = { w with heap := w.heap.setIfInBounds r (.map (L ++ [(⟨key, val, clock⟩ : MapEntry)]).toArray (clock + 1)) } → MapIs P K w' r (L ++ [(⟨key, val, clock⟩ : MapEntry)]) (clock + 1) → wpList P ops Q rest (a.put o.dst undef) w') : wpList P ops Q (o :: rest) a w := by
  refine wpList_plain hg fun K' hK' => ?_
  obtain ⟨h1, h2⟩ := h.put_miss KK hM (v := val) hkey hn
  unfold Oper.wp
  simp only [execOp, hop, hm, hx, hv, Sem.run_bind, h1, Result.andThen]
  exact hK' _ _ (hK _ rfl h2)
/-- A range's iterator over map r (or over none), with the stamps that it has handed out. -/
def IterAt (w : World) (it : Nat) (r : Option Nat) (clock : Nat) (seen : Array Nat) : Prop := ∃ (s c0 : Nat), (r ≠ none → s = clock ∧ clock ≤ c0) ∧ w.heap[it]? = some (.mapIter r s seen c0)
theorem IterAt.keep {w' : World} {it : Nat} {r : Option Nat} {clock : Nat} {seen : Array Nat} (h : IterAt w it r clock seen) (hk : w'.heap[it]? = w.heap[it]?) : IterAt w' it r clock seen := by
  obtain ⟨s, c0, h1, h2⟩ := h
  exact ⟨s, c0, h1, hk.trans h2⟩
theorem IterAt.lt {it : Nat} {r : Option Nat} {clock : Nat} {seen : Array Nat} (h : IterAt w it r clock seen) : it < w.heap.size := by
  obtain ⟨s, c0, h1, h2⟩ := h
  exact heap_lt h2
end

/-! what a range has seen -/
end Go.Proofs.YtmbonngjkgcijaaGreatDoor

namespace Go.Proofs.YtmbonngjkgcijaaGreatDoor
open Go.RowKit

/-- Where a region ends in no other way. -/
def onlyN (R : Act → World → Prop) : Exit → Act → World → Prop
  | .normal, a, w => R a w
  | _, _, _ => False
theorem wp_only {P : Program} {c : Code} {Q : Exit → Act → World → Prop} {a : Act} {w : World} (h : c.wp P (onlyN fun a w => Q .normal a w) a w) : c.wp P Q a w :=
  Code.wp_mono (fun e a w h => by
    cases e
    case normal => exact h
    all_goals exact h.elim) h
theorem wpList_app_run {P : Program} {w w' : World} {ops : Array Oper} {rest : List Oper} {o : Oper} {a : Act} {Q : Exit → Act → World → Prop} (hg : o.guard = none) (s x : Operand) (T tx : TypeId) (ho : o.op = .call { callee := .builtin .append, args := #[s, x], argTypes := #[T, tx] }) {u v v' : Value} (hs : a.eval s = u) (hx : a.eval x = v) (hrun : (Builtin.append_ #[T, tx] o.type #[u, v]).run P w = .ok v' w') (hK : wpList P ops Q rest (a.put o.dst v') w') : wpList P ops Q (o :: rest) a w :=
  wpList_plain hg fun K' hK' => by
    unfold Oper.wp execOp
    simp only [ho, resolve, invoke, builtin, Sem.run_bind, Sem.run_pure, Result.andThen_ok, List.map_toArray, List.map_cons, List.map_nil, hs, hx, hrun]
    exact hK' _ _ hK
theorem pzz.{u} {α : Type u} : (∀ (l : List α) (i : Nat) (a : α), l.toArray.setIfInBounds i a = (l.set i a).toArray) ∧ (∀ (x a : α) (l : List α), (x :: l).set 0 a = a :: l) ∧ (∀ (x a : α) (l : List α) (i : Nat), (x :: l).set (i + 1) a = x :: l.set i a) := ⟨fun l i a => List.setIfInBounds_toArray l i a, fun _ _ _ => rfl, fun _ _ _ _ => rfl⟩
theorem tkH {P md ops Q S} {i : Nat} {oi : Oper} {v : Value} {fuel : Nat} {listed : Array Bool} {a : Act} {w : World} (hy : YieldsIf P ops S oi v a) (h : wpAnyH P md ops Q S fuel (listed.setIfInBounds i true) (a.put oi.dst v) w) (hS : S w := by assumption) (hi : ops[i]? = some oi := by rfl) (hs : Region.noSelect ops = true := by kernel_rfl) (hf : Region.free md ops listed i = true := by kernel_rfl) (hr : (Region.ready md ops listed).contains i = true := by kernel_rfl) (hQ : ∀ c a w, Q (.panic c) (a.put oi.dst v) w → Q (.panic c) a w := by exact fun _ _ _ h => h) : wpAnyH P md ops Q S (fuel + 1) listed a w := wpAnyH_take hi hs hf hr hQ hy hS h
end Go.Proofs.YtmbonngjkgcijaaGreatDoor

namespace Go.Proofs.YtmbonngjkgcijaaGreatDoor
def pol : Nat := 2197175160
def bs (s : Nat) : Nat := if s % 2 = 1 then s / 2 ^^^ pol else s / 2
theorem bs_bit (s i : Nat) : (bs s).testBit i = (s.testBit (i + 1) ^^ (s.testBit 0 && pol.testBit i)) := by
  unfold bs
  rw [Nat.testBit_succ, Nat.testBit_zero]
  split
  · rename_i h; simp [Nat.testBit_xor, h]
  · rename_i h; simp [h]
theorem bs_xor (a b : Nat) : bs (a ^^^ b) = bs a ^^^ bs b := by
  refine Nat.eq_of_testBit_eq fun i => ?_
  rw [Nat.testBit_xor, bs_bit, bs_bit, bs_bit, Nat.testBit_xor, Nat.testBit_xor]
  generalize a.testBit (i + 1) = p
  generalize b.testBit (i + 1) = q
  generalize a.testBit 0 = r
  generalize b.testBit 0 = s
  generalize pol.testBit i = t
  revert p q r s t
  decide
theorem bs_lt {s : Nat} (h : s < 4294967296) : bs s < 4294967296 := by
  unfold bs
  split
  · exact Nat.xor_lt_two_pow (n := 32) (by omega) (by decide)
  · omega
theorem bs_even (m : Nat) : bs (2 * m) = m := by unfold bs; rw [if_neg (by omega)]; omega
theorem xor_lt32 {a b : Nat} (ha : a < 4294967296) (hb : b < 4294967296) : a ^^^ b < 4294967296 := Nat.xor_lt_two_pow (n := 32) ha hb
def tab : List Nat := [0, 274646895, 549293790, 820201905, 1098587580, 1361435347, 1640403810, 1905808397, 2197175160, 2460548119, 2722870694, 2987750089, 3280807620, 3553878443, 3811616794, 4084100981]
def bs4 (s : Nat) : Nat := bs (bs (bs (bs s)))
def bs8 (s : Nat) : Nat := bs4 (bs4 s)
theorem bs4_xor (a b : Nat) : bs4 (a ^^^ b) = bs4 a ^^^ bs4 b := by simp only [bs4, bs_xor]
theorem bs8_xor (a b : Nat) : bs8 (a ^^^ b) = bs8 a ^^^ bs8 b := by simp only [bs8, bs4_xor]
theorem bs4_lt {s : Nat} (h : s < 4294967296) : bs4 s < 4294967296 := bs_lt (bs_lt (bs_lt (bs_lt h)))
theorem bs8_lt {s : Nat} (h : s < 4294967296) : bs8 s < 4294967296 := bs4_lt (bs4_lt h)
theorem split16 (s : Nat) : s = (2 * (2 * (2 * (2 * (s / 16))))) ^^^ (s % 16) := by
  refine Nat.eq_of_testBit_eq fun i => ?_
  have e : 2 * (2 * (2 * (2 * (s / 16)))) = (s >>> 4) <<< 4 := by rw [Nat.shiftRight_eq_div_pow, Nat.shiftLeft_eq]; omega
  have e2 : s % 16 = s % 2 ^ 4 := rfl
  rw [e, e2, Nat.testBit_xor, Nat.testBit_shiftLeft, Nat.testBit_shiftRight, Nat.testBit_mod_two_pow]
  by_cases h : 4 ≤ i
  · simp [h, show 4 + (i - 4) = i from by omega, show ¬ i < 4 from by omega]
  · simp [h, show i < 4 from by omega]
theorem tab_bs : ∀ r, r < 16 → tab[r]? = some (bs4 r) := by decide
theorem tab_step (s : Nat) : ∃ t, tab[s % 16]? = some t ∧ (s / 16) ^^^ t = bs4 s ∧ t < 4294967296 := by
  refine ⟨bs4 (s % 16), tab_bs _ (Nat.mod_lt _ (by decide)), ?_, bs4_lt (by omega)⟩
  conv => rhs; rw [split16 s]
  rw [bs4_xor]
  congr 1
  simp only [bs4, bs_even]
/-- The state behind bytes. -/
def crcL (s : Nat) (l : List UInt8) : Nat := l.foldl (fun s x => bs8 (s ^^^ x.toNat)) s
theorem u8_lt (x : UInt8) : x.toNat < 4294967296 := Nat.lt_trans (UInt8.toNat_lt x) (by decide)
theorem crcL_snoc (s : Nat) (l : List UInt8) (x : UInt8) : crcL s (l ++ [x]) = bs8 (crcL s l ^^^ x.toNat) := by simp [crcL]
theorem crcL_append (s : Nat) (l m : List UInt8) : crcL s (l ++ m) = crcL (crcL s l) m := by simp [crcL]
theorem crcL_lt {s : Nat} (h : s < 4294967296) (l : List UInt8) : crcL s l < 4294967296 := by
  induction l generalizing s with
  | nil => exact h
  | cons x r ih => exact ih (bs8_lt (xor_lt32 h (u8_lt x)))
/-- The document's own sum: a bit at a time. -/
def bitAt (l : List UInt8) (i : Nat) : Nat := (l[i / 8]?.getD 0).toNat / 2 ^ (i % 8) % 2
def refS (l : List UInt8) : Nat → Nat
  | 0 => 4294967295
  | i + 1 => bs (refS l i ^^^ bitAt l i)
theorem ref_eight : ∀ x, x < 256 → bs (bs (bs (bs (bs (bs (bs (bs (x / 1 % 2) ^^^ (x / 2 % 2)) ^^^ (x / 4 % 2)) ^^^ (x / 8 % 2)) ^^^ (x / 16 % 2)) ^^^ (x / 32 % 2)) ^^^ (x / 64 % 2)) ^^^ (x / 128 % 2)) = bs8 x := by
  have h : ((List.range 256).all fun x => bs (bs (bs (bs (bs (bs (bs (bs (x / 1 % 2) ^^^ (x / 2 % 2)) ^^^ (x / 4 % 2)) ^^^ (x / 8 % 2)) ^^^ (x / 16 % 2)) ^^^ (x / 32 % 2)) ^^^ (x / 64 % 2)) ^^^ (x / 128 % 2)) == bs8 x) = true := by decide +kernel
  intro x hx
  simpa using List.all_eq_true.1 h x (List.mem_range.2 hx)
theorem refS_eight {l : List UInt8} {k : Nat} {x : UInt8} (hx : l[k]? = some x) : refS l (8 * (k + 1)) = bs8 (refS l (8 * k) ^^^ x.toNat) := by
  have hb : ∀ j, j < 8 → bitAt l (8 * k + j) = x.toNat / 2 ^ j % 2 := by
    intro j hj
    unfold bitAt
    rw [show (8 * k + j) / 8 = k from by omega, show (8 * k + j) % 8 = j from by omega, hx]; rfl
  have e := ref_eight x.toNat (UInt8.toNat_lt x)
  rw [show 8 * (k + 1) = 8 * k + 7 + 1 from by omega]
  simp only [refS]
  have hb0 := hb 0 (by omega)
  rw [Nat.add_zero] at hb0
  rw [hb0, hb 1 (by omega), hb 2 (by omega), hb 3 (by omega), hb 4 (by omega), hb 5 (by omega), hb 6 (by omega), hb 7 (by omega), bs8_xor, ← e]
  simp only [bs_xor, bs8, bs4, Nat.xor_assoc]
theorem refS_crc (l : List UInt8) (k : Nat) (hk : k ≤ l.length) : refS l (8 * k) = crcL 4294967295 (l.take k) := by
  induction k with
  | zero => rfl
  | succ k ih =>
    rw [refS_eight (List.getElem?_eq_getElem (show k < l.length by omega)), ih (by omega), List.take_succ_eq_append_getElem (by omega), crcL_snoc]
theorem bitAt_le (l : List UInt8) (i : Nat) : bitAt l i ≤ 1 := by unfold bitAt; omega
theorem refS_lt (l : List UInt8) (i : Nat) : refS l i < 4294967296 := by
  induction i with
  | zero => exact (by decide : (4294967295 : Nat) < 4294967296)
  | succ i ih => exact bs_lt (xor_lt32 ih (by have := bitAt_le l i; omega))
def sumB (l : List UInt8) : Nat := crcL 4294967295 l ^^^ 4294967295
theorem not32 {s : Nat} (h : s < 4294967296) : s ^^^ 4294967295 = 4294967295 - s := by
  have : (4294967295 : Nat) = 2 ^ 32 - 1 := by decide
  rw [this, Nat.xor_comm]
  refine Nat.eq_of_testBit_eq fun i => ?_
  rw [show 2 ^ 32 - 1 - s = 2 ^ 32 - (s + 1) from by omega, Nat.testBit_two_pow_sub_succ h, Nat.testBit_xor, Nat.testBit_two_pow_sub_one]
  by_cases hi : i < 32
  · simp [hi]
  · simp [hi]
    exact Nat.testBit_lt_two_pow (Nat.lt_of_lt_of_le h (by rw [show (4294967296 : Nat) = 2 ^ 32 from rfl]; exact Nat.pow_le_pow_right (by omega) (by omega)))
theorem sumB_eq (l : List UInt8) : sumB l = 4294967295 - crcL 4294967295 l := not32 (crcL_lt (by decide) l)
theorem sumB_lt (l : List UInt8) : sumB l < 4294967296 := by rw [sumB_eq]; omega
/-- Four bytes of a number, the highest one first. -/
def be4 (s : Nat) : List UInt8 := [(s / 16777216).toUInt8, (s / 65536).toUInt8, (s / 256).toUInt8, s.toUInt8]
def headB (n : Nat) : List UInt8 := [167, (n / 256).toUInt8, n.toUInt8]
def preB (l : List UInt8) : List UInt8 := headB l.length ++ l
def frameB (l : List UInt8) : List UInt8 := preB l ++ be4 (sumB (preB l))
theorem frameB_len (l : List UInt8) : (frameB l).length = l.length + 7 := by simp [frameB, preB, headB, be4]
def be4N (a b c d : UInt8) : Nat := ((a.toNat * 256 + b.toNat) * 256 + c.toNat) * 256 + d.toNat
theorem u8_mod (n : Nat) : (n.toUInt8).toNat = n % 256 := by simp [Nat.toUInt8]
theorem be4N_be4 {s : Nat} (h : s < 4294967296) : be4N (s / 16777216).toUInt8 (s / 65536).toUInt8 (s / 256).toUInt8 s.toUInt8 = s := by
  unfold be4N
  rw [u8_mod, u8_mod, u8_mod, u8_mod]; omega

/-! frames -/
def atN (b : List UInt8) (i : Nat) : Nat := (b[i]?.getD 0).toNat
def szP (b : List UInt8) : Nat := atN b 1 * 256 + atN b 2
def wordP (b : List UInt8) (i : Nat) : Nat := be4N (b[i]?.getD 0) (b[i + 1]?.getD 0) (b[i + 2]?.getD 0) (b[i + 3]?.getD 0)
def firstP (b : List UInt8) : Nat := if b.length < 7 ∨ atN b 0 ≠ 167 then 0 else if 16384 < szP b ∨ b.length < szP b + 7 ∨ sumB (b.take (szP b + 3)) ≠ wordP b (szP b + 3) then 0 else szP b + 7
theorem atN_lt (b : List UInt8) (i : Nat) : atN b i < 256 := UInt8.toNat_lt _
theorem szP_lt (b : List UInt8) : szP b < 65536 := by
  have := atN_lt b 1
  have := atN_lt b 2
  unfold szP; omega
theorem preB_len (l : List UInt8) : (preB l).length = l.length + 3 := by simp [preB, headB]
theorem szP_frame {l : List UInt8} (hl : l.length ≤ 16384) (rest : List UInt8) : szP (frameB l ++ rest) = l.length := by
  simp [szP, atN, frameB, preB, headB, u8_mod]
  omega
theorem firstP_frame {l : List UInt8} (hl : l.length ≤ 16384) (rest : List UInt8) : firstP (frameB l ++ rest) = l.length + 7 := by
  have hs := szP_frame hl rest
  have h1 : ¬ ((frameB l ++ rest).length < 7 ∨ atN (frameB l ++ rest) 0 ≠ 167) := by
    rw [List.length_append, frameB_len]
    have : atN (frameB l ++ rest) 0 = 167 := by simp [atN, frameB, preB, headB]
    omega
  unfold firstP
  rw [if_neg h1, hs, if_neg]
  rintro (h | h | h)
  · omega
  · rw [List.length_append, frameB_len] at h; omega
  · refine h ?_
    have e1 : (frameB l ++ rest).take (l.length + 3) = preB l := by
      unfold frameB
      rw [List.append_assoc, ← preB_len l, List.take_left]
    have e2 : ∀ j, j < 4 → (frameB l ++ rest)[l.length + 3 + j]? = (be4 (sumB (preB l)))[j]? := by
      intro j hj
      unfold frameB
      rw [List.append_assoc, List.getElem?_append_right (by rw [preB_len]; omega), preB_len, Nat.add_sub_cancel_left, List.getElem?_append_left (by simpa [be4] using hj)]
    rw [e1]
    unfold wordP
    rw [← Nat.add_zero (l.length + 3), e2 0 (by omega)]
    rw [show l.length + 3 + 0 + 1 = l.length + 3 + 1 from rfl, show l.length + 3 + 0 + 2 = l.length + 3 + 2 from rfl, show l.length + 3 + 0 + 3 = l.length + 3 + 3 from rfl, e2 1 (by omega), e2 2 (by omega), e2 3 (by omega)]
    exact (be4N_be4 (sumB_lt _)).symm
theorem u8_of {x : UInt8} {n : Nat} (h : n % 256 = x.toNat) : n.toUInt8 = x := UInt8.toNat_inj.1 (by rw [u8_mod]; exact h)
theorem be4_be4N (a b c d : UInt8) : be4 (be4N a b c d) = [a, b, c, d] := by
  have := UInt8.toNat_lt a
  have := UInt8.toNat_lt b
  have := UInt8.toNat_lt c
  have := UInt8.toNat_lt d
  unfold be4
  rw [u8_of (x := a) (by unfold be4N; omega), u8_of (x := b) (by unfold be4N; omega), u8_of (x := c) (by unfold be4N; omega), u8_of (x := d) (by unfold be4N; omega)]
theorem headB_sz (b : List UInt8) (h0 : atN b 0 = 167) (h3 : 3 ≤ b.length) : headB (szP b) = b.take 3 := by
  match b, h3 with
  | x :: y :: z :: r, _ =>
    have hx : x.toNat = 167 := h0
    have hy := UInt8.toNat_lt y
    have hz := UInt8.toNat_lt z
    have e : szP (x :: y :: z :: r) = y.toNat * 256 + z.toNat := rfl
    rw [e]
    unfold headB
    rw [u8_of (x := y) (by omega), u8_of (x := z) (by omega)]
    have : x = 167 := UInt8.toNat_inj.1 (by rw [hx]; rfl)
    rw [this]; rfl
theorem firstP_pos {b : List UInt8} (h : firstP b ≠ 0) : ∃ l, l = (b.drop 3).take (szP b) ∧ l.length = szP b ∧ l.length ≤ 16384 ∧ firstP b = l.length + 7 ∧ b = frameB l ++ b.drop (l.length + 7) ∧ l.length + 7 ≤ b.length := by
  unfold firstP at h ⊢
  by_cases h1 : b.length < 7 ∨ atN b 0 ≠ 167
  · rw [if_pos h1] at h; exact absurd rfl h
  · rw [if_neg h1] at h ⊢
    by_cases h2 : 16384 < szP b ∨ b.length < szP b + 7 ∨ sumB (b.take (szP b + 3)) ≠ wordP b (szP b + 3)
    · rw [if_pos h2] at h; exact absurd rfl h
    · rw [if_neg h2]
      have h4 : sumB (b.take (szP b + 3)) = wordP b (szP b + 3) := Classical.byContradiction fun hc => h2 (.inr (.inr hc))
      have hl : ((b.drop 3).take (szP b)).length = szP b := by simp; omega
      refine ⟨_, rfl, hl, by omega, by rw [hl], ?_, by omega⟩
      have hp : preB ((b.drop 3).take (szP b)) = b.take (szP b + 3) := by
        unfold preB
        rw [hl, headB_sz b (by omega) (by omega), Nat.add_comm, List.take_add]
      have hw : (b.drop (szP b + 3)).take 4 = be4 (wordP b (szP b + 3)) := by
        unfold wordP
        rw [be4_be4N]
        refine List.ext_getElem? fun i => ?_
        rw [List.getElem?_take]
        split
        · rename_i hi
          rw [List.getElem?_drop]
          have g : ∀ j, j < 4 → b[szP b + 3 + j]? = some (b[szP b + 3 + j]?.getD 0) := fun j hj => by
            rw [List.getElem?_eq_getElem (by omega)]; rfl
          match i, hi with
          | 0, _ => simpa using g 0 (by omega)
          | 1, _ => simpa using g 1 (by omega)
          | 2, _ => simpa using g 2 (by omega)
          | 3, _ => simpa using g 3 (by omega)
        · rw [List.getElem?_eq_none]; simp; omega
      have : frameB ((b.drop 3).take (szP b)) = b.take (szP b + 7) := by
        unfold frameB
        rw [hp, h4, ← hw, show szP b + 7 = (szP b + 3) + 4 from rfl, List.take_add (i := szP b + 3)]
      rw [hl, this, List.take_append_drop]
end Go.Proofs.YtmbonngjkgcijaaGreatDoor
