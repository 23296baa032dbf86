/- Rows of cells of one's own, whatever their elements; what a call may turn. Nothing here speaks of the program. -/
import Derived.WalkKit
import Derived.Deep.AppendSrc
import Derived.Deep.Upon
import Derived.Room.Entries
import Derived.Lib.Hide
import Derived.OwnWalk
import Derived.Deep.QuietTactic
set_option linter.unusedSimpArgs false
set_option linter.unusedVariables false
set_option linter.unnecessarySimpa false
namespace Go.Proofs.YtmchmlkbpocboaaGreatDoor
open Go.RowKit

theorem add0 (g n : Nat) : (⟨g, 0, none⟩ : Addr).add n = ⟨g, n, none⟩ := by
  unfold Addr.add
  split
  · subst n; rfl
  · simp
theorem add_block (a : Addr) (n : Nat) : (a.add n).block = a.block := by unfold Addr.add; split <;> rfl
theorem asz (w : World) (o : Obj) : (w.alloc o).heap.size = w.heap.size + 1 := Array.size_push _
theorem heap_lt {w : World} {b : Nat} {o : Obj} (h : w.heap[b]? = some o) : b < w.heap.size := by
  rcases Nat.lt_or_ge b w.heap.size with h1 | h1
  · exact h1
  · rw [Array.getElem?_eq_none h1] at h; cases h
theorem below_new {w : World} (o : Obj) : Below w.heap.size w (w.alloc o) := (Below.refl _ _).alloc (Nat.le_refl _) _
theorem below_drewN {B : Nat} {a w : World} (h : Below B a w) (n : Nat) : Below B a (w.drewN n) := ⟨h.os, h.tape, h.output, h.size, h.block⟩
theorem below_drew {B : Nat} {a w : World} (h : Below B a w) : Below B a w.drew := ⟨h.os, h.tape, h.output, h.size, h.block⟩
theorem free0 {W : World} {b : Nat} {cs : Array Value} {t : TypeId} (h : W.heap[b]? = some (.cells cs t (0, 0))) (i : Nat) : W.frozen? ⟨b, i, none⟩ = false := by
  simp [World.frozen?, h]
theorem cell_of {W : World} {b : Nat} {cs : Array Value} {t : TypeId} {fr : Nat × Nat} (h : W.heap[b]? = some (.cells cs t fr)) (i : Nat) : W.cell? ⟨b, i, none⟩ = cs[i]? := by
  simp [World.cell?, h]
theorem set_at {W : World} {b : Nat} {cs : Array Value} {t : TypeId} {fr : Nat × Nat} (h : W.heap[b]? = some (.cells cs t fr)) (i : Nat) (v : Value) : (W.setCell ⟨b, i, none⟩ v).heap[b]? = some (.cells (cs.setIfInBounds i v) t fr) := by
  have hb := heap_lt h
  have : W.heap[b] = .cells cs t fr := Option.some.inj ((Array.getElem?_eq_getElem hb).symm.trans h)
  simp [World.setCell, Array.getElem?_modify, h]
theorem alloc_at (W : World) (o : Obj) : (W.alloc o).heap[W.heap.size]? = some o := by
  show (W.heap.push o)[W.heap.size]? = _
  rw [Array.getElem?_push, if_pos rfl]

/-! what a call may turn -/
/-- What lay in w outside of S lies in w'. -/
structure Touch (S : Nat → Prop) (w w' : World) : Prop where
  os : w'.os = w.os
  tape : w'.tape = w.tape
  output : w'.output = w.output
  size : w.heap.size ≤ w'.heap.size
  block : ∀ k, k < w.heap.size → ¬ S k → w'.heap[k]? = w.heap[k]?
theorem Touch.refl (S : Nat → Prop) (w : World) : Touch S w w := ⟨rfl, rfl, rfl, Nat.le_refl _, fun _ _ _ => rfl⟩
theorem Touch.of_below {S : Nat → Prop} {w w' : World} (h : Below w.heap.size w w') : Touch S w w' := ⟨h.os, h.tape, h.output, h.size, fun k hk _ => h.block k hk⟩
theorem Touch.trans {S T : Nat → Prop} {a b c : World} (h : Touch S a b) (k : Touch T b c) (hT : ∀ i, i < a.heap.size → T i → S i) : Touch S a c :=
  ⟨k.os.trans h.os, k.tape.trans h.tape, k.output.trans h.output, Nat.le_trans h.size k.size, fun i hi hs => (k.block i (Nat.lt_of_lt_of_le hi h.size) (fun ht => hs (hT i hi ht))).trans (h.block i hi hs)⟩
theorem Touch.mono {S T : Nat → Prop} {a b : World} (h : Touch S a b) (hT : ∀ i, i < a.heap.size → S i → T i) : Touch T a b := ⟨h.os, h.tape, h.output, h.size, fun i hi ht => h.block i hi (fun hs => ht (hT i hi hs))⟩
theorem Touch.below {S : Nat → Prop} {B : Nat} {a b : World} (h : Touch S a b) (hS : ∀ i, S i → B ≤ i) (hB : B ≤ a.heap.size) : Below B a b :=
  ⟨h.os, h.tape, h.output, h.size, fun i hi => h.block i (by omega) (fun hs => by have := hS i hs; omega)⟩
theorem Touch.after {S : Nat → Prop} {a b c : World} (h : Touch S a b) (k : Below b.heap.size b c) : Touch S a c := h.trans (T := fun _ => False) (.of_below k) (fun _ _ h => h.elim)
theorem Touch.ahead {S : Nat → Prop} {a b c : World} (h : Below a.heap.size a b) (k : Touch S b c) : Touch S a c := (Touch.of_below (S := S) h).trans k (fun _ _ h => h)
theorem Touch.drew {S : Nat → Prop} {a b : World} (h : Touch S a b) : Touch S a b.drew := ⟨h.os, h.tape, h.output, h.size, h.block⟩
theorem Touch.drewN {S : Nat → Prop} {a b : World} (h : Touch S a b) (n : Nat) : Touch S a (b.drewN n) := ⟨h.os, h.tape, h.output, h.size, h.block⟩
theorem Touch.setCell {S : Nat → Prop} {a b : World} (h : Touch S a b) (p : Addr) (hp : p.block < a.heap.size → S p.block) (u : Value) : Touch S a (b.setCell p u) :=
  ⟨h.os, h.tape, h.output, by simpa [World.setCell] using h.size, fun k hk hs => (Below.heap_setCell _ _ _ _ (fun e => hs (by rw [e]; exact hp (by rw [← e]; exact hk)))).trans (h.block k hk hs)⟩
theorem Touch.alloc {S : Nat → Prop} {a b : World} (h : Touch S a b) (o : Obj) : Touch S a (b.alloc o) := h.after (below_new o)
theorem Touch.grown {S : Nat → Prop} {a b c : World} {row : Option Nat} (h : Touch S a b) (hg : b.grownBy c row) (hr : ∀ k, row = some k → k < a.heap.size → S k) : Touch S a c :=
  ⟨hg.os.trans h.os, hg.tape.trans h.tape, hg.output.trans h.output, Nat.le_trans h.size hg.size, fun k hk hs => (hg.block k (Nat.lt_of_lt_of_le hk h.size) (fun e => hs (hr k e.symm hk))).trans (h.block k hk hs)⟩
theorem Touch.set {S : Nat → Prop} {a b : World} (h : Touch S a b) (r : Nat) (o : Obj) (hr : r < a.heap.size → S r) : Touch S a { b with heap := b.heap.setIfInBounds r o } :=
  ⟨h.os, h.tape, h.output, by simpa using h.size, fun k hk hs => by
    have hne : r ≠ k := fun e => hs (by rw [← e]; exact hr (by rw [e]; exact hk))
    show (b.heap.setIfInBounds r o)[k]? = _
    rw [Array.getElem?_setIfInBounds_ne hne]
    exact h.block k hk hs⟩

/-! rows of one's own -/
/-- The cells l, at the head of block g, of which so many elements of z cells there is room for. -/
structure RowC (w : World) (z g cap : Nat) (l : List Value) : Prop where
  lt : g < w.heap.size
  le : l.length ≤ cap * z
  max : cap ≤ maxLen
  holds : ∀ (j : Nat) (b : Value), l[j]? = some b → w.cell? ⟨g, j, none⟩ = some b
  there : ∀ j, j < cap * z → (w.cell? ⟨g, j, none⟩).isSome = true ∧ w.frozen? ⟨g, j, none⟩ = false
/-- A slice of n elements of z cells each, in a block of one's own, or nil. -/
def RowIs (w : World) (z : Nat) (v : Value) (n : Nat) (l : List Value) : Prop :=
  (v = .slice none 0 0 ∧ n = 0 ∧ l = []) ∨ ∃ g cap, v = .slice (some ⟨g, 0, none⟩) n cap ∧ l.length = n * z ∧ n ≤ cap ∧ RowC w z g cap l
theorem RowC.keep {w w' : World} {z g cap : Nat} {l : List Value} (h : RowC w z g cap l) (hs : w.heap.size ≤ w'.heap.size) (hk : w'.heap[g]? = w.heap[g]?) : RowC w' z g cap l :=
  ⟨Nat.lt_of_lt_of_le h.lt hs, h.le, h.max, fun j b hj => by rw [World.cell?_of_block (a := ⟨g, j, none⟩) hk]; exact h.holds j b hj, fun j hj => by rw [World.cell?_of_block (a := ⟨g, j, none⟩) hk, World.frozen?_of_block (a := ⟨g, j, none⟩) hk]; exact h.there j hj⟩
theorem RowIs.keep {w w' : World} {z : Nat} {v : Value} {n : Nat} {l : List Value} (h : RowIs w z v n l) (hs : w.heap.size ≤ w'.heap.size) (hk : ∀ g, v.ownBlock = some g → w'.heap[g]? = w.heap[g]?) : RowIs w' z v n l := by
  rcases h with h | ⟨g, cap, rfl, h1, h2, h⟩
  · exact .inl h
  · exact .inr ⟨g, cap, rfl, h1, h2, h.keep hs (hk g rfl)⟩
theorem RowIs.lt {w : World} {z : Nat} {v : Value} {n : Nat} {l : List Value} (h : RowIs w z v n l) : ∀ g, v.ownBlock = some g → g < w.heap.size := by
  intro k hk
  rcases h with ⟨rfl, _⟩ | ⟨g, cap, rfl, _, _, h⟩
  · cases hk
  · cases hk; exact h.lt
theorem RowIs.below {w w' : World} {z : Nat} {v : Value} {n : Nat} {l : List Value} (h : RowIs w z v n l) (hb : Below w.heap.size w w') : RowIs w' z v n l := h.keep hb.size (fun g hg => hb.block g (h.lt g hg))
theorem RowIs.touch {S : Nat → Prop} {w w' : World} {z : Nat} {v : Value} {n : Nat} {l : List Value} (h : RowIs w z v n l) (hb : Touch S w w') (hS : ∀ g, v.ownBlock = some g → ¬ S g) : RowIs w' z v n l := h.keep hb.size (fun g hg => hb.block g (h.lt g hg) (hS g hg))
theorem RowIs.nil (w : World) (z : Nat) : RowIs w z (.slice none 0 0) 0 [] := .inl ⟨rfl, rfl, rfl⟩
theorem RowIs.len {w : World} {z : Nat} {v : Value} {n : Nat} {l : List Value} (h : RowIs w z v n l) : l.length = n * z := by
  rcases h with ⟨_, rfl, rfl⟩ | ⟨_, _, _, h, _⟩
  · simp
  · exact h
theorem RowIs.form {w : World} {z : Nat} {v : Value} {n : Nat} {l : List Value} (h : RowIs w z v n l) : ∃ A cap, v = .slice A n cap ∧ n ≤ cap ∧ cap ≤ maxLen ∧ (A = none → n = 0 ∧ cap = 0) ∧ (∀ a, A = some a → ∃ g, a = ⟨g, 0, none⟩ ∧ v.ownBlock = some g) ∧ ∀ j u, l[j]? = some u → ∃ g, A = some ⟨g, 0, none⟩ ∧ w.cell? ⟨g, j, none⟩ = some u := by
  rcases h with ⟨rfl, rfl, rfl⟩ | ⟨g, cap, rfl, h1, h2, h⟩
  · exact ⟨none, 0, rfl, Nat.le_refl _, by unfold maxLen; omega, fun _ => ⟨rfl, rfl⟩, (fun a h => by cases h), (fun j u hu => by simp at hu)⟩
  · exact ⟨_, cap, rfl, h2, h.max, (fun h => by cases h), (fun a e => ⟨g, (Option.some.inj e).symm, rfl⟩), (fun j u hu => ⟨g, rfl, h.holds j u hu⟩)⟩
theorem setCells_tape (g : Nat) : ∀ (vs : List Value) (o : Nat) (w : World), (w.setCells g o vs).tape = w.tape ∧ (w.setCells g o vs).heap.size = w.heap.size
  | [], _, _ => ⟨rfl, rfl⟩
  | v :: r, o, w => by
    have := setCells_tape g r (o + 1) (w.setCell ⟨g, o, none⟩ v)
    exact ⟨this.1, this.2.trans (by simp [World.setCell])⟩

/-- append onto a row of one's own: the new row lies in the old one's block or in a new one. -/
theorem run_append_row {P : Program} (w : World) (T E ty tx : TypeId) (hT : P.underlying T = some (.slice E)) {zv : Value} {z by' : Nat} (hE : (P.info? E).map (fun i => (i.zero, i.size, i.bytes)) = some (some zv, z, by')) (hzv : zv.cells.size = z) (hz0 : 0 < z) (hby : by' ≤ 1024)
    (v : Value) (n m : Nat) (l ms : List Value) (x : Value) (hown : RowIs w z v n l) (hs : Src P z tx x m ms w) (hlen : n + m ≤ 16777216) :
    ∃ v' w', (Builtin.append_ #[T, tx] ty #[v, x]).run P w = .ok v' w' ∧ RowIs w' z v' (n + m) (l ++ ms) ∧ w.grownBy w' v.ownBlock ∧ (v'.ownBlock = v.ownBlock ∨ v'.ownBlock = some w.heap.size) := by
  obtain ⟨i0, hi, hzz, hz1, hz2⟩ := info_parts hE
  have hs' : Src P i0.size tx x m ms w := by rw [hz1]; exact hs
  have hl := hown.len
  have hml := hs.newsLen
  have grow : ∀ (A : Option Addr) (sCap : Nat), (Builtin.firstCells i0.size n (.slice A n sCap)).run P w.drew = .ok l.toArray w.drew → sCap < n + m →
      ∃ v' w', (Builtin.append_ #[T, tx] ty #[.slice A n sCap, x]).run P w = .ok v' w' ∧ RowIs w' z v' (n + m) (l ++ ms) ∧ w.grownBy w' (Value.slice A n sCap).ownBlock ∧ (v'.ownBlock = (Value.slice A n sCap).ownBlock ∨ v'.ownBlock = some w.heap.size) := by
    intro A sCap hold hg
    have hfit : Builtin.nextslicecap (n + m) sCap * i0.bytes ≤ 281474976710656 := by
      have h1 := Go.Room.nextslicecap_le' hg
      rw [hz2]
      exact Nat.le_trans (Nat.mul_le_mul h1 hby) (by omega)
    have hr := run_append_grow_src (P := P) w T tx ty E i0 _ hT hi hzz A n sCap l hold x m ms hs' hg (by omega) hfit
    have hge := grownCap_ge w (n + m) sCap E
    have hle := grownCap_le_maxLen w (n + m) sCap E (by unfold maxLen; omega)
    have hlc : (l ++ ms).length = (n + m) * z := by rw [List.length_append, hl, hml, Nat.add_mul]
    refine ⟨_, _, hr, .inr ⟨w.heap.size, grownCap w (n + m) sCap E, rfl, hlc, hge, ?_⟩, ⟨rfl, rfl, rfl, by simp, fun k hk _ => by rw [Below.heap_alloc _ _ k (by simpa using hk)]; rfl⟩, .inr rfl⟩
    have hblk : (w.drew.alloc (.cells ((l ++ ms).toArray ++ Builtin.zeroCells zv.cells (grownCap w (n + m) sCap E - (n + m))) E)).heap[w.heap.size]? = some (.cells ((l ++ ms).toArray ++ Builtin.zeroCells zv.cells (grownCap w (n + m) sCap E - (n + m))) E (0, 0)) := heap_alloc_new w.drew _
    refine ⟨by simp, by rw [hlc]; exact Nat.mul_le_mul_right _ hge, hle, fun j b hj => ?_, fun j hj => ?_⟩
    · rw [cell_of_row _ _ _ _ _ _ hblk]
      rw [Array.getElem?_append_left (by simpa using (List.getElem?_eq_some_iff.1 hj).1)]
      simpa using hj
    · constructor
      · rw [cell_of_row _ _ _ _ _ _ hblk]
        have hsz : j < ((l ++ ms).toArray ++ Builtin.zeroCells zv.cells (grownCap w (n + m) sCap E - (n + m))).size := by
          rw [Array.size_append, size_zeroCells, List.size_toArray, hlc, hzv, ← Nat.add_mul, Nat.add_sub_cancel' hge]
          exact hj
        rw [Array.getElem?_eq_getElem hsz]; rfl
      · exact free0 hblk j
  rcases hown with ⟨rfl, rfl, rfl⟩ | ⟨g, cap, rfl, h1, h2, ho⟩
  · by_cases hz : m = 0
    · subst hz
      obtain rfl : ms = [] := List.eq_nil_of_length_eq_zero (by omega)
      exact ⟨.slice none 0 0, w, run_append_nothing w T tx ty E i0 hT hi none 0 0 (Nat.le_refl _) x hs', .inl ⟨rfl, rfl, rfl⟩, ⟨rfl, rfl, rfl, Nat.le_refl _, fun _ _ _ => rfl⟩, .inl rfl⟩
    · exact grow none 0 (by simp [Builtin.firstCells]) (by omega)
  · by_cases hroom : n + m ≤ cap
    · have hrz : n * z + m * z ≤ cap * z := by rw [← Nat.add_mul]; exact Nat.mul_le_mul_right _ hroom
      have hr := run_append_room_src (P := P) w T tx ty E i0 hT hi g 0 n cap x m ms hs' hroom
        (by rw [hz1]; intro j hj; have := (ho.there (n * z + j) (by omega)).1; simpa using this) (by rw [hz1]; intro j hj; have := (ho.there (n * z + j) (by omega)).2; simpa using this)
      rw [hz1] at hr
      have e0 : 0 + n * z = l.length := by omega
      rw [e0] at hr
      have hkb := World.keptBut_setCells g (may := fun p => p.block = g) ms l.length w (fun _ _ => rfl)
      refine ⟨_, _, hr, .inr ⟨g, cap, rfl, by rw [List.length_append, hl, hml, Nat.add_mul], hroom, ?_⟩, ⟨hkb.1, (setCells_tape g ms l.length w).1, hkb.2.1, Nat.le_of_eq (setCells_tape g ms l.length w).2.symm, fun k hk hne => hkb.block hk (fun p hp e => hne (by rw [← e, hp]; rfl))⟩, .inl rfl⟩
      have hex : ∀ j, j < ms.length → (w.cell? ⟨g, l.length + j, none⟩).isSome = true := fun j hj => (ho.there (l.length + j) (by omega)).1
      refine ⟨by rw [(setCells_tape g ms l.length w).2]; exact ho.lt, by rw [List.length_append]; omega, ho.max, fun j b hj => ?_, fun j hj => ⟨?_, ?_⟩⟩
      · by_cases hjl : j < l.length
        · rw [World.cell?_setCells_out g ms l.length w ⟨g, j, none⟩ (fun _ _ => .inl hjl)]
          exact ho.holds j b (by rwa [List.getElem?_append_left hjl] at hj)
        · rw [List.getElem?_append_right (by omega)] at hj
          have h2 : j - l.length < ms.length := (List.getElem?_eq_some_iff.1 hj).1
          have h3 := World.cell?_setCells_in g ms l.length w hex (j - l.length) h2
          rw [show l.length + (j - l.length) = j from by omega] at h3
          rw [h3, (List.getElem?_eq_some_iff.1 hj).2]
      · by_cases hin : l.length ≤ j ∧ j < l.length + ms.length
        · have h3 := World.cell?_setCells_in g ms l.length w hex (j - l.length) (by omega)
          rw [show l.length + (j - l.length) = j from by omega] at h3
          rw [h3]; rfl
        · rw [World.cell?_setCells_out g ms l.length w ⟨g, j, none⟩ (fun _ _ => by simp only; omega)]
          exact (ho.there j hj).1
      · rw [World.frozen?_setCells]; exact (ho.there j hj).2
    · exact grow (some ⟨g, 0, none⟩) cap (by rw [hz1]; exact run_firstCells_some w.drew z n ⟨g, 0, none⟩ n cap l hl (fun j u hu => by
        rw [add0]; exact ho.holds j _ hu)) (by omega)

/-- the same, as an arm of a walk -/
theorem wpList_append_row {P : Program} (T E : TypeId) (hT : P.underlying T = some (.slice E)) {zv : Value} {z by' : Nat} (hE : (P.info? E).map (fun i => (i.zero, i.size, i.bytes)) = some (some zv, z, by')) (hzv : zv.cells.size = z) (hz0 : 0 < z) (hby : by' ≤ 1024)
    (w : World) {ops : Array Oper} {rest : List Oper} {o : Oper} {a : Act} {Q : Exit → Act → World → Prop} (hgd : o.guard = none) (s x : Operand) (tx : TypeId)
    (ho : o.op = .call { callee := .builtin .append, args := #[s, x], argTypes := #[T, tx] })
    (n m : Nat) (l ms : List Value) (v y : Value) (hs : a.eval s = v) (hx : a.eval x = y) (hown : RowIs w z v n l) (hsrc : Src P z tx y m ms w) (hlen : n + m ≤ 16777216)
    (h : ∀ v' w', RowIs w' z v' (n + m) (l ++ ms) → w.grownBy w' v.ownBlock → (v'.ownBlock = v.ownBlock ∨ v'.ownBlock = some w.heap.size) → wpList P ops Q rest (a.put o.dst v') w') : wpList P ops Q (o :: rest) a w :=
  wpList_plain hgd fun K hK => by
    obtain ⟨v', w', hr, h2, h3, h4⟩ := run_append_row w T E o.type tx hT hE hzv hz0 hby v n m l ms y hown hsrc hlen
    unfold Oper.wp execOp
    simp only [ho, resolve, invoke, builtin, Sem.run_bind, Sem.run_pure, Result.andThen_ok, List.map_toArray, List.map_cons, List.map_nil, hs, hx, hr]
    exact hK _ _ (h v' w' h2 h3 h4)
end Go.Proofs.YtmchmlkbpocboaaGreatDoor
