/- append onto a row of one's own whose elements are slices; where the new row lies. -/
import Derived.Test.YtojmfjmnfpnmmaaDoorCrcD
set_option linter.unusedSimpArgs false
set_option linter.unusedVariables false
set_option linter.unnecessarySimpa false
namespace Go.Proofs.YtojmfjmnfpnmmaaDoor
open Go.RowKit

/-- Values of one cell in a block of one's own. -/
structure OwnV (w : World) (base g cap : Nat) (l : List Value) : Prop where
  new : base ≤ g
  lt : g < w.heap.size
  le : l.length ≤ cap
  max : cap ≤ maxLen
  holds : ∀ (j : Nat) (b : Value), l[j]? = some b → w.cell? ⟨g, j, none⟩ = some b
  there : ∀ j, j < cap → (w.cell? ⟨g, j, none⟩).isSome = true ∧ w.frozen? ⟨g, j, none⟩ = false
def OwnS (w : World) (base : Nat) (v : Value) (l : List Value) : Prop :=
  (v = .slice none 0 0 ∧ l = []) ∨ ∃ g cap, v = .slice (some ⟨g, 0, none⟩) l.length cap ∧ OwnV w base g cap l
theorem OwnV.keep {w w' : World} {base g cap : Nat} {l : List Value} (h : OwnV w base g cap l) (hs : w.heap.size ≤ w'.heap.size) (hk : w'.heap[g]? = w.heap[g]?) : OwnV w' base g cap l :=
  ⟨h.new, Nat.lt_of_lt_of_le h.lt hs, h.le, h.max, fun j b hj => by rw [World.cell?_of_block (a := ⟨g, j, none⟩) hk]; exact h.holds j b hj, fun j hj => by rw [World.cell?_of_block (a := ⟨g, j, none⟩) hk, World.frozen?_of_block (a := ⟨g, j, none⟩) hk]; exact h.there j hj⟩
theorem OwnS.below {w w' : World} {base : Nat} {v : Value} {l : List Value} (h : OwnS w base v l) (hb : Below w.heap.size w w') : OwnS w' base v l := by
  rcases h with h | ⟨g, cap, rfl, h⟩
  · exact .inl h
  · exact .inr ⟨g, cap, rfl, h.keep hb.size (hb.block g h.lt)⟩
theorem info22v : (Tryd.prog.info? 23).map (fun i => (i.zero, i.size, i.bytes)) = some (some (.slice none 0 0), 1, 24) := by kernel_rfl

theorem run_append_vals (w : World) (base : Nat) (ty tx : TypeId) (v : Value) (l ms : List Value) (x : Value) (hown : OwnS w base v l) (hs : Src Tryd.prog 1 tx x ms.length ms w) (hlen : l.length + ms.length ≤ 1073741824) (hbase : base ≤ w.heap.size) :
    ∃ v' w', (Builtin.append_ #[22, tx] ty #[v, x]).run Tryd.prog w = .ok v' w' ∧ OwnS w' base v' (l ++ ms) ∧ w.grownBy w' v.ownBlock ∧ (v'.ownBlock = v.ownBlock ∨ v'.ownBlock = some w.heap.size) := by
  obtain ⟨i0, hi, hz0, hz1, hz2⟩ := info_parts info22v
  have hs' : Src Tryd.prog i0.size tx x ms.length ms w := by rw [hz1]; exact hs
  have grow : ∀ (A : Option Addr) (sCap : Nat), (Builtin.firstCells i0.size l.length (.slice A l.length sCap)).run Tryd.prog w.drew = .ok l.toArray w.drew → sCap < l.length + ms.length →
      ∃ v' w', (Builtin.append_ #[22, tx] ty #[.slice A l.length sCap, x]).run Tryd.prog w = .ok v' w' ∧ OwnS w' base v' (l ++ ms) ∧ w.grownBy w' (Value.slice A l.length sCap).ownBlock ∧ (v'.ownBlock = (Value.slice A l.length sCap).ownBlock ∨ v'.ownBlock = some w.heap.size) := by
    intro A sCap hold hg
    have hfit : Builtin.nextslicecap (l.length + ms.length) sCap * i0.bytes ≤ 281474976710656 := by
      have := Go.Room.nextslicecap_le' hg
      rw [hz2]; omega
    have hr := run_append_grow_src (P := Tryd.prog) w 22 tx ty 23 i0 _ Tryd.underlying22 hi hz0 A l.length sCap l hold x ms.length ms hs' hg (by omega) hfit
    have hge := grownCap_ge w (l.length + ms.length) sCap 23
    have hle := grownCap_le_maxLen w (l.length + ms.length) sCap 23 (by unfold maxLen; omega)
    refine ⟨_, _, hr, .inr ⟨w.heap.size, grownCap w (l.length + ms.length) sCap 23, by simp, ?_⟩, ⟨rfl, rfl, rfl, by simp, fun k hk _ => by rw [Below.heap_alloc _ _ k (by simpa using hk)]; rfl⟩, .inr rfl⟩
    have hblk : (w.drew.alloc (.cells ((l ++ ms).toArray ++ Builtin.zeroCells (Value.cells (.slice none 0 0)) (grownCap w (l.length + ms.length) sCap 23 - (l.length + ms.length))) 23)).heap[w.heap.size]? = some (.cells ((l ++ ms).toArray ++ Builtin.zeroCells (Value.cells (.slice none 0 0)) (grownCap w (l.length + ms.length) sCap 23 - (l.length + ms.length))) 23 (0, 0)) := heap_alloc_new w.drew _
    refine ⟨hbase, by simp, by simpa using hge, hle, fun j b hj => ?_, fun j hj => ?_⟩
    · rw [cell_of_row _ _ _ _ _ _ hblk]
      rw [Array.getElem?_append_left (by simpa using (List.getElem?_eq_some_iff.1 hj).1)]
      simpa using hj
    · constructor
      · rw [cell_of_row _ _ _ _ _ _ hblk]
        have hsz : j < ((l ++ ms).toArray ++ Builtin.zeroCells (Value.cells (.slice none 0 0)) (grownCap w (l.length + ms.length) sCap 23 - (l.length + ms.length))).size := by
          rw [Array.size_append, size_zeroCells]
          simp [Value.cells]
          omega
        rw [Array.getElem?_eq_getElem hsz]; rfl
      · exact free0 hblk j
  rcases hown with ⟨rfl, rfl⟩ | ⟨g, cap, rfl, ho⟩
  · by_cases hz : ms = []
    · subst hz
      exact ⟨.slice none 0 0, w, run_append_nothing w 22 tx ty 23 i0 Tryd.underlying22 hi none 0 0 (Nat.le_refl _) x hs', .inl ⟨rfl, rfl⟩, ⟨rfl, rfl, rfl, Nat.le_refl _, fun _ _ _ => rfl⟩, .inl rfl⟩
    · exact grow none 0 (by simp [Builtin.firstCells]) (by simpa using List.length_pos_iff.2 hz)
  · by_cases hroom : l.length + ms.length ≤ cap
    · have hr := run_append_room_src (P := Tryd.prog) w 22 tx ty 23 i0 Tryd.underlying22 hi g 0 l.length cap x ms.length ms hs' hroom
        (by rw [hz1]; intro j hj; have := (ho.there (l.length + j) (by omega)).1; simpa using this) (by rw [hz1]; intro j hj; have := (ho.there (l.length + j) (by omega)).2; simpa using this)
      rw [hz1] at hr
      have e0 : 0 + l.length * 1 = l.length := by omega
      rw [e0] at hr
      have hkb := World.keptBut_setCells g (may := fun p => p.block = g) ms l.length w (fun _ _ => rfl)
      refine ⟨_, _, hr, .inr ⟨g, cap, by simp, ?_⟩, ⟨hkb.1, (setCells_tape g ms l.length w).1, hkb.2.1, Nat.le_of_eq (setCells_tape g ms l.length w).2.symm, fun k hk hne => hkb.block hk (fun p hp e => hne (by rw [← e, hp]; rfl))⟩, .inl rfl⟩
      have hex : ∀ j, j < ms.length → (w.cell? ⟨g, l.length + j, none⟩).isSome = true := fun j hj => (ho.there (l.length + j) (by omega)).1
      refine ⟨ho.new, by rw [(setCells_tape g ms l.length w).2]; exact ho.lt, by simpa using hroom, ho.max, fun j b hj => ?_, fun j hj => ⟨?_, ?_⟩⟩
      · by_cases hjl : j < l.length
        · rw [World.cell?_setCells_out g ms l.length w ⟨g, j, none⟩ (fun _ _ => .inl hjl)]
          exact ho.holds j b (by rwa [List.getElem?_append_left hjl] at hj)
        · rw [List.getElem?_append_right (by omega)] at hj
          have h2 : j - l.length < ms.length := (List.getElem?_eq_some_iff.1 hj).1
          have h3 := World.cell?_setCells_in g ms l.length w hex (j - l.length) h2
          rw [show l.length + (j - l.length) = j from by omega] at h3
          rw [h3, (List.getElem?_eq_some_iff.1 hj).2]
      · by_cases hin : l.length ≤ j ∧ j < l.length + ms.length
        · have h3 := World.cell?_setCells_in g ms l.length w hex (j - l.length) (by omega)
          rw [show l.length + (j - l.length) = j from by omega] at h3
          rw [h3]; rfl
        · rw [World.cell?_setCells_out g ms l.length w ⟨g, j, none⟩ (fun _ _ => by simp only; omega)]
          exact (ho.there j hj).1
      · rw [World.frozen?_setCells]; exact (ho.there j hj).2
    · exact grow (some ⟨g, 0, none⟩) cap (by rw [hz1]; exact run_firstCells_some w.drew 1 l.length ⟨g, 0, none⟩ l.length cap l (by simp) (fun j u hu => by
        rw [add0]; exact ho.holds j _ hu)) (by omega)

/-- the same, as an arm of a walk -/
theorem wpList_append_vals (w : World) {ops : Array Oper} {rest : List Oper} {o : Oper} {a : Act} {Q : Exit → Act → World → Prop} (hgd : o.guard = none) (s x : Operand) (tx : TypeId)
    (ho : o.op = .call { callee := .builtin .append, args := #[s, x], argTypes := #[22, tx] })
    (base : Nat) (l ms : List Value) (v y : Value) (hs : a.eval s = v) (hx : a.eval x = y) (hown : OwnS w base v l) (hsrc : Src Tryd.prog 1 tx y ms.length ms w) (hlen : l.length + ms.length ≤ 1073741824) (hbase : base ≤ w.heap.size)
    (h : ∀ v' w', OwnS w' base v' (l ++ ms) → w.grownBy w' v.ownBlock → (v'.ownBlock = v.ownBlock ∨ v'.ownBlock = some w.heap.size) → wpList Tryd.prog ops Q rest (a.put o.dst v') w') : wpList Tryd.prog ops Q (o :: rest) a w :=
  wpList_plain hgd fun K hK => by
    obtain ⟨v', w', hr, h2, h3, h4⟩ := run_append_vals w base o.type tx v l ms y hown hsrc hlen hbase
    unfold Oper.wp execOp
    simp only [ho, resolve, invoke, builtin, Sem.run_bind, Sem.run_pure, Result.andThen_ok, List.map_toArray, List.map_cons, List.map_nil, hs, hx, hr]
    exact hK _ _ (h v' w' h2 h3 h4)
end Go.Proofs.YtojmfjmnfpnmmaaDoor
