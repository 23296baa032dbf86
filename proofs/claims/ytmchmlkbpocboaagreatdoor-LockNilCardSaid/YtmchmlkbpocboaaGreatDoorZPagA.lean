/- Areas: a stretch of a block that is a slice's own, from an offset on; what touches one leaves the others. -/
import Derived.Test.YtmchmlkbpocboaaGreatDoorZTak
import Derived.Test.YtmchmlkbpocboaaGreatDoorZEoD
import Derived.Lib.AppendZerosOnto
import Derived.Lib.Overlaps
set_option linter.unusedSimpArgs false
set_option linter.unusedVariables false
set_option linter.unnecessarySimpa false
namespace Go.Proofs.YtmchmlkbpocboaaGreatDoor
open Go.RowKit

/-- The slice of elements of z cells that begins at offset o of block g, with room for cap elements, holds the cells l first. -/
structure Area (w : World) (z g o cap : Nat) (l : List Value) : Prop where
  lt : g < w.heap.size
  le : l.length ≤ cap * z
  max : cap ≤ maxLen
  holds : ∀ j u, l[j]? = some u → w.cell? ⟨g, o + j, none⟩ = some u
  there : ∀ j, j < cap * z → (w.cell? ⟨g, o + j, none⟩).isSome = true ∧ w.frozen? ⟨g, o + j, none⟩ = false
  one : ∀ u ∈ l, u.oneCell' = true
/-- Of the old blocks g alone is turned, and of it alone the n cells from o on. -/
structure TouchA (g o n : Nat) (w w' : World) : Prop where
  os : w'.os = w.os
  tape : w'.tape = w.tape
  output : w'.output = w.output
  size : w.heap.size ≤ w'.heap.size
  block : ∀ k, k < w.heap.size → k ≠ g → w'.heap[k]? = w.heap[k]?
  cells : ∀ j, j < o ∨ o + n ≤ j → w'.cell? ⟨g, j, none⟩ = w.cell? ⟨g, j, none⟩
  froz : ∀ j, w'.frozen? ⟨g, j, none⟩ = w.frozen? ⟨g, j, none⟩
section
variable {w w' w'' : World} {z g o n cap g' o' n' cap' : Nat} {l : List Value}
theorem TouchA.touch (h : TouchA g o n w w') : Touch (fun k => k = g) w w' := ⟨h.os, h.tape, h.output, h.size, fun k hk hne => h.block k hk hne⟩
theorem TouchA.refl (g o n : Nat) (w : World) : TouchA g o n w w := ⟨rfl, rfl, rfl, Nat.le_refl _, fun _ _ _ => rfl, fun _ _ => rfl, fun _ => rfl⟩
theorem TouchA.of_below (hg : g < w.heap.size) (h : Below w.heap.size w w') : TouchA g o n w w' :=
  ⟨h.os, h.tape, h.output, h.size, fun k hk _ => h.block k hk, fun j _ => World.cell?_of_block (a := ⟨g, j, none⟩) (h.block g hg), fun j => World.frozen?_of_block (a := ⟨g, j, none⟩) (h.block g hg)⟩
theorem TouchA.trans (h : TouchA g o n w w') (k : TouchA g o n w' w'') : TouchA g o n w w'' :=
  ⟨k.os.trans h.os, k.tape.trans h.tape, k.output.trans h.output, Nat.le_trans h.size k.size, fun i hi hne => (k.block i (Nat.lt_of_lt_of_le hi h.size) hne).trans (h.block i hi hne), fun j hj => (k.cells j hj).trans (h.cells j hj), fun j => (k.froz j).trans (h.froz j)⟩
theorem TouchA.drew (h : TouchA g o n w w') : TouchA g o n w w'.drew := ⟨h.os, h.tape, h.output, h.size, h.block, h.cells, h.froz⟩
theorem TouchA.fresh (h : TouchA g o n w w') (hg : w''.heap.size ≤ g) (hb : Below w''.heap.size w'' w) : Below w''.heap.size w'' w' :=
  hb.trans (h.touch.below (fun i e => by rw [e]; exact hg) hb.size)
theorem TouchA.setCells (w : World) (g o n p : Nat) (ys : List Value) (h1 : o ≤ p) (h2 : p + ys.length ≤ o + n) : TouchA g o n w (w.setCells g p ys) := by
  have hk := World.keptBut_setCells g (may := fun x => x.block = g) ys p w (fun _ _ => rfl)
  exact ⟨hk.1, (setCells_tape g ys p w).1, hk.2.1, Nat.le_of_eq (setCells_tape g ys p w).2.symm, fun k hk2 hne => hk.block hk2 (fun x hx e => hne (by rw [← e, hx])), fun j hj => World.cell?_setCells_out g ys p w ⟨g, j, none⟩ (fun _ _ => by simp only; omega), fun j => World.frozen?_setCells g ys p w _⟩
theorem Area.keep (h : Area w z g o cap l) (hs : w.heap.size ≤ w'.heap.size) (hk : w'.heap[g]? = w.heap[g]?) : Area w' z g o cap l :=
  ⟨Nat.lt_of_lt_of_le h.lt hs, h.le, h.max, fun j u hj => (World.cell?_of_block (a := ⟨g, o + j, none⟩) hk).trans (h.holds j u hj), fun j hj => by
    rw [World.cell?_of_block (a := ⟨g, o + j, none⟩) hk, World.frozen?_of_block (a := ⟨g, o + j, none⟩) hk]; exact h.there j hj, h.one⟩
theorem Area.below (h : Area w z g o cap l) (hb : Below w.heap.size w w') : Area w' z g o cap l := h.keep hb.size (hb.block g h.lt)
theorem Area.touch {S : Nat → Prop} (h : Area w z g o cap l) (ht : Touch S w w') (hS : ¬ S g) : Area w' z g o cap l := h.keep ht.size (ht.block g h.lt hS)
/-- Two stretches have no cell in common. -/
def Off (g o n g' o' n' : Nat) : Prop := g ≠ g' ∨ o + n ≤ o' ∨ o' + n' ≤ o
theorem Off.symm (h : Off g o n g' o' n') : Off g' o' n' g o n := by
  rcases h with h | h | h
  · exact .inl (fun e => h e.symm)
  · exact .inr (.inr h)
  · exact .inr (.inl h)
theorem Area.far (h : Area w z g o cap l) (ht : TouchA g' o' n' w w') (hf : Off g o (cap * z) g' o' n') : Area w' z g o cap l := by
  by_cases hg : g = g'
  · subst hg
    have hc : ∀ j, j < cap * z → w'.cell? ⟨g, o + j, none⟩ = w.cell? ⟨g, o + j, none⟩ := fun j hj => ht.cells _ (by
      rcases hf with hf | hf | hf
      · exact absurd rfl hf
      · left; omega
      · right; omega)
    refine ⟨Nat.lt_of_lt_of_le h.lt ht.size, h.le, h.max, fun j u hj => ?_, fun j hj => by rw [hc j hj, ht.froz]; exact h.there j hj, h.one⟩
    have hjl := (List.getElem?_eq_some_iff.1 hj).1
    have := h.le
    rw [hc j (by omega)]
    exact h.holds j u hj
  · exact h.touch ht.touch hg
/-- Some cells are written over. -/
theorem Area.put (h : Area w z g o cap l) {p : Nat} {ys l' : List Value} (hp : p + ys.length ≤ cap * z) (hl : l'.length ≤ cap * z) (h1 : ∀ u ∈ l', u.oneCell' = true)
    (hin : ∀ j u, p ≤ j → j < p + ys.length → l'[j]? = some u → ys[j - p]? = some u) (hout : ∀ j u, j < p ∨ p + ys.length ≤ j → l'[j]? = some u → l[j]? = some u) : Area (w.setCells g (o + p) ys) z g o cap l' := by
  have hex : ∀ j, j < ys.length → (w.cell? ⟨g, o + p + j, none⟩).isSome = true := fun j hj => by rw [Nat.add_assoc]; exact (h.there (p + j) (by omega)).1
  have hcell : ∀ j, j < cap * z → ((w.setCells g (o + p) ys).cell? ⟨g, o + j, none⟩).isSome = true ∧ (∀ hj : p ≤ j ∧ j < p + ys.length, (w.setCells g (o + p) ys).cell? ⟨g, o + j, none⟩ = ys[j - p]?) ∧ (j < p ∨ p + ys.length ≤ j → (w.setCells g (o + p) ys).cell? ⟨g, o + j, none⟩ = w.cell? ⟨g, o + j, none⟩) := fun j hj => by
    by_cases hin : p ≤ j ∧ j < p + ys.length
    · have h3 := World.cell?_setCells_in g ys (o + p) w hex (j - p) (by omega)
      rw [show o + p + (j - p) = o + j from by omega] at h3
      exact ⟨by rw [h3]; rfl, fun _ => by rw [h3, List.getElem?_eq_getElem (by omega)], fun e => by omega⟩
    · have h3 : (w.setCells g (o + p) ys).cell? ⟨g, o + j, none⟩ = w.cell? ⟨g, o + j, none⟩ := World.cell?_setCells_out g ys (o + p) w ⟨g, o + j, none⟩ (fun _ _ => by simp only; omega)
      exact ⟨by rw [h3]; exact (h.there j hj).1, fun e => absurd e hin, fun _ => h3⟩
  refine ⟨by rw [(setCells_tape g ys (o + p) w).2]; exact h.lt, hl, h.max, fun j u hj => ?_, fun j hj => ⟨(hcell j hj).1, by rw [World.frozen?_setCells]; exact (h.there j hj).2⟩, h1⟩
  have hjl := (List.getElem?_eq_some_iff.1 hj).1
  by_cases hi : p ≤ j ∧ j < p + ys.length
  · rw [(hcell j (by omega)).2.1 hi]
    exact hin j u hi.1 hi.2 hj
  · rw [(hcell j (by omega)).2.2 (by omega)]
    exact h.holds j u (hout j u (by omega) hj)
/-- Fewer elements of it. -/
theorem Area.cut (h : Area w z g o cap l) (l' : List Value) (hl : l' <+: l) : Area w z g o cap l' :=
  ⟨h.lt, Nat.le_trans hl.length_le h.le, h.max, fun j u hj => h.holds j u (by
    obtain ⟨t, rfl⟩ := hl
    rw [List.getElem?_append_left (List.getElem?_eq_some_iff.1 hj).1]; exact hj), h.there, fun u hu => h.one u (hl.subset hu)⟩
/-- The first k elements' room. -/
theorem Area.front (h : Area w z g o cap l) {k : Nat} (hk : k ≤ cap) (hl : l.length = k * z + n) : Area w z g o k (l.take (k * z)) := by
  have hkz : k * z ≤ cap * z := Nat.mul_le_mul_right _ hk
  refine ⟨h.lt, by rw [List.length_take]; omega, Nat.le_trans hk h.max, fun j u hj => h.holds j u ?_, fun j hj => h.there j (by omega), fun u hu => h.one u (List.mem_of_mem_take hu)⟩
  have hjl := (List.getElem?_eq_some_iff.1 hj).1
  rw [List.length_take] at hjl
  rw [List.getElem?_take_of_lt (by omega)] at hj
  exact hj
/-- What lies behind the first k elements. -/
theorem Area.back (h : Area w z g o cap l) {k : Nat} (hk : k ≤ cap) : Area w z g (o + k * z) (cap - k) (l.drop (k * z)) := by
  have hkz : k * z ≤ cap * z := Nat.mul_le_mul_right _ hk
  have hle := h.le
  refine ⟨h.lt, by rw [List.length_drop, Nat.sub_mul]; omega, Nat.le_trans (Nat.sub_le _ _) h.max, fun j u hj => ?_, fun j hj => ?_, fun u hu => h.one u (List.mem_of_mem_drop hu)⟩
  · rw [List.getElem?_drop] at hj
    rw [Nat.add_assoc]
    exact h.holds _ u hj
  · rw [Nat.sub_mul] at hj
    rw [Nat.add_assoc]
    exact h.there _ (by omega)
/-- A block that is a row. -/
theorem Area.block {cs : Array Value} {t : TypeId} (h : w.heap[g]? = some (.cells cs t (0, 0))) (hz : cs.size = cap * z) (hm : cap ≤ maxLen) (hl : l.length ≤ cap * z) (hc : ∀ (j : Nat) (u : Value), l[j]? = some u → cs[j]? = some u) (h1 : ∀ u ∈ l, u.oneCell' = true) : Area w z g 0 cap l :=
  ⟨heap_lt h, hl, hm, fun j u hj => by rw [Nat.zero_add, cell_of h j]; exact hc j u hj, fun j hj => by rw [Nat.zero_add]; exact ⟨by rw [cell_of h j, Array.getElem?_eq_getElem (by omega)]; rfl, free0 h j⟩, h1⟩
end
theorem below_of_drew {w w' : World} (h : Below w.drew.heap.size w.drew w') : Below w.heap.size w w' := (below_drew (Below.refl _ w)).trans h
/-- What an insertion leaves: the row is where it was, or in a new block. -/
def InsPost (w : World) (z g o cap n : Nat) (l : List Value) (e : Ending) (w' : World) : Prop := ∃ g' o' cap', e = .returned (.slice (some ⟨g', o', none⟩) n cap') ∧ n ≤ cap' ∧ Area w' z g' o' cap' l ∧ ((g' = g ∧ o' = o ∧ cap' = cap ∧ TouchA g o (cap * z) w w') ∨ (g' = w.heap.size ∧ o' = 0 ∧ Below w.heap.size w w'))
/-- append(s, x) of one element, where there is room. -/
theorem app_room {P : Program} {w : World} {T E ty : TypeId} (hT : P.underlying T = some (.slice E)) {zv : Value} {z by' : Nat} (hE : (P.info? E).map (fun i => (i.zero, i.size, i.bytes)) = some (some zv, z, by')) {g o cap n : Nat} {l xs : List Value} (h : Area w z g o cap l) (hl : l.length = n * z) {x : Value} (hs : Src P z T x 1 xs w) (hr : n + 1 ≤ cap) :
    (Builtin.append_ #[T, T] ty #[.slice (some ⟨g, o, none⟩) n cap, x]).run P w = .ok (.slice (some ⟨g, o, none⟩) (n + 1) cap) (w.setCells g (o + n * z) xs) ∧ Area (w.setCells g (o + n * z) xs) z g o cap (l ++ xs) ∧ TouchA g o (cap * z) w (w.setCells g (o + n * z) xs) := by
  obtain ⟨i0, hi, hzz, hz1, hz2⟩ := info_parts hE
  have hxl := hs.newsLen
  have hs' : Src P i0.size T x 1 xs w := by rw [hz1]; exact hs
  have hrz : n * z + 1 * z ≤ cap * z := by rw [← Nat.add_mul]; exact Nat.mul_le_mul_right _ hr
  have hrun := run_append_room_src (P := P) w T T ty E i0 hT hi g o n cap x 1 xs hs' hr
    (by rw [hz1]; intro j hj; have := (h.there (n * z + j) (by omega)).1; rw [Nat.add_assoc]; exact this) (by rw [hz1]; intro j hj; have := (h.there (n * z + j) (by omega)).2; rw [Nat.add_assoc]; exact this)
  rw [hz1] at hrun
  refine ⟨hrun, h.put (by omega) (by rw [List.length_append]; omega) (fun u hu => (List.mem_append.1 hu).elim (h.one u) (hs.one u)) (fun j u h1 h2 hj => ?_) (fun j u h1 hj => ?_), TouchA.setCells _ _ _ _ _ _ (by omega) (by omega)⟩
  · rw [List.getElem?_append_right (by omega), hl] at hj
    exact hj
  · have hjl := (List.getElem?_eq_some_iff.1 hj).1
    rw [List.length_append] at hjl
    rw [List.getElem?_append_left (by omega)] at hj
    exact hj
/-- append(s, x) of one element, where there is none. -/
theorem app_grow {P : Program} {w : World} {T E ty : TypeId} (hT : P.underlying T = some (.slice E)) {zv : Value} {z by' : Nat} (hE : (P.info? E).map (fun i => (i.zero, i.size, i.bytes)) = some (some zv, z, by')) (hzv : zv.cells.size = z) (hby : by' ≤ 1024) {g o cap n : Nat} {l xs : List Value} (h : Area w z g o cap l) (hl : l.length = n * z) (hn : n ≤ 100000) {x : Value} (hs : Src P z T x 1 xs w) (hr : cap < n + 1) :
    ∃ c' w', (Builtin.append_ #[T, T] ty #[.slice (some ⟨g, o, none⟩) n cap, x]).run P w = .ok (.slice (some ⟨w.heap.size, 0, none⟩) (n + 1) c') w' ∧ n + 1 ≤ c' ∧ Area w' z w.heap.size 0 c' (l ++ xs) ∧ Below w.heap.size w w' := by
  obtain ⟨i0, hi, hzz, hz1, hz2⟩ := info_parts hE
  have hxl := hs.newsLen
  have hs' : Src P i0.size T x 1 xs w := by rw [hz1]; exact hs
  have hold : (Builtin.firstCells i0.size n (.slice (some ⟨g, o, none⟩) n cap)).run P w.drew = .ok l.toArray w.drew := by
    rw [hz1]
    exact run_firstCells_some w.drew z n ⟨g, o, none⟩ n cap l hl (fun j v hj => by
      have hadd : (⟨g, o, none⟩ : Addr).add j = ⟨g, o + j, none⟩ := by unfold Addr.add; split <;> simp_all
      rw [hadd]
      exact h.holds j v hj)
  have hfit : Builtin.nextslicecap (n + 1) cap * i0.bytes ≤ 281474976710656 := by
    have h1 := Go.Room.nextslicecap_le' hr
    rw [hz2]
    exact Nat.le_trans (Nat.mul_le_mul h1 hby) (by omega)
  have hrun := run_append_grow_src (P := P) w T T ty E i0 _ hT hi hzz (some ⟨g, o, none⟩) n cap l hold x 1 xs hs' hr (by omega) hfit
  have hge := grownCap_ge w (n + 1) cap E
  have hle := grownCap_le_maxLen w (n + 1) cap E (by unfold maxLen; omega)
  have hlc : (l ++ xs).length = (n + 1) * z := by rw [List.length_append, hl, hxl, Nat.add_mul]
  have hblk : (w.drew.alloc (.cells ((l ++ xs).toArray ++ Builtin.zeroCells zv.cells (grownCap w (n + 1) cap E - (n + 1))) E)).heap[w.heap.size]? = some (.cells ((l ++ xs).toArray ++ Builtin.zeroCells zv.cells (grownCap w (n + 1) cap E - (n + 1))) E (0, 0)) := heap_alloc_new w.drew _
  refine ⟨_, _, hrun, hge, Area.block hblk ?_ hle (by rw [hlc]; exact Nat.mul_le_mul_right _ hge) (fun j u hj => ?_) (fun u hu => (List.mem_append.1 hu).elim (h.one u) (hs.one u)), below_of_drew (below_new _)⟩
  · rw [Array.size_append, size_zeroCells, List.size_toArray, hlc, hzv, ← Nat.add_mul, Nat.add_sub_cancel' hge]
  · rw [Array.getElem?_append_left (by simpa using (List.getElem?_eq_some_iff.1 hj).1)]
    simpa using hj
end Go.Proofs.YtmchmlkbpocboaaGreatDoor
