/- lock: a lane of a table changes; a lane is made; again. lock: a key's lane is found, or made. -/
import Derived.Test.YtmchmlkbpocboaaGreatDoorZLokP
set_option linter.unusedSimpArgs false
set_option linter.unusedVariables false
set_option linter.unnecessarySimpa false
namespace Go.Proofs.YtmchmlkbpocboaaGreatDoor
open Go.RowKit
open Go.Maps (Keyed)

section
variable {W W' : World} {tb gl gw : Nat} {L : List Le} {WT : List Wt} {ro : Nat → Nat}
theorem TbAt.nodup (h : TbAt W tb gl gw L WT ro) : (L.map Le.key).Nodup := by
  obtain ⟨M, c, h1, h2⟩ := h.lanes
  have h3 := h1.one
  have h4 : M.map (·.key) = L.map (fun e => strV e.key) := by
    have := congrArg (List.map Prod.fst) h2
    rw [List.map_map, List.map_map] at this
    exact this
  rw [h4] at h3
  have h5 : (L.map (fun e => strV e.key)) = (L.map Le.key).map strV := by rw [List.map_map]; rfl
  rw [h5] at h3
  exact (List.pairwise_map.1 h3).imp (fun hne e => hne (by rw [e]))
theorem TbAt.nodupW (h : TbAt W tb gl gw L WT ro) : (WT.map (·.1)).Nodup := by
  obtain ⟨M, c, h1, h2⟩ := h.waits
  have h3 := h1.one
  have h4 : M.map (·.key) = WT.map (fun e => Value.int .i64 e.1) := by
    have := congrArg (List.map Prod.fst) h2
    rw [List.map_map, List.map_map] at this
    exact this
  rw [h4] at h3
  have h5 : (WT.map (fun e => Value.int .i64 e.1)) = (WT.map (·.1)).map (Value.int .i64) := by rw [List.map_map]; rfl
  rw [h5] at h3
  exact (List.pairwise_map.1 h3).imp (fun hne e => hne (by rw [e]))
theorem nodup_at {α β : Type} {f : α → β} {l : List α} (hn : (l.map f).Nodup) {i j : Nat} {x y : α} (hi : l[i]? = some x) (hj : l[j]? = some y) (e : f x = f y) : i = j := by
  have e1 : (l.map f)[i]? = some (f x) := by rw [List.getElem?_map, hi]; rfl
  have e2 : (l.map f)[j]? = some (f y) := by rw [List.getElem?_map, hj]; rfl
  obtain ⟨l1, f1⟩ := List.getElem?_eq_some_iff.1 e1
  obtain ⟨l2, f2⟩ := List.getElem?_eq_some_iff.1 e2
  exact (List.getElem_inj (h₀ := l1) (h₁ := l2) hn).1 (by rw [f1, f2, e])
theorem find_at {α β : Type} [BEq β] [LawfulBEq β] {f : α → β} {l : List α} (hn : (l.map f).Nodup) {j : Nat} {x : α} (hj : l[j]? = some x) : l.find? (fun e => f e == f x) = some x := by
  cases hf : l.find? (fun e => f e == f x) with
  | none =>
    rw [List.find?_eq_none] at hf
    exact absurd (by simp) (hf x (List.mem_of_getElem? hj))
  | some y =>
    have h1 := List.find?_some hf
    rw [beq_iff_eq] at h1
    obtain ⟨i, hi⟩ := List.getElem?_of_mem (List.mem_of_find?_eq_some hf)
    have := nodup_at hn hi hj h1
    subst this
    rw [hi] at hj
    rw [Option.some.inj hj]
theorem laneP_at (hn : (L.map Le.key).Nodup) {j : Nat} {x : Le} (hj : L[j]? = some x) : laneP (tbOf L WT) x.key = some x.l := by
  rw [laneP_tb, find_at (f := Le.key) hn hj]; rfl
theorem setLane_set (hn : (L.map Le.key).Nodup) {j : Nat} {x : Le} (hj : L[j]? = some x) (rv' : Value) (l' : Ln) : setLane (tbOf L WT) x.key l' = tbOf (L.set j { x with rv := rv', l := l' }) WT := by
  unfold setLane
  have hany : (tbOf L WT).lanes.any (fun e => e.1 == x.key) = true := List.any_eq_true.2 ⟨(x.key, x.l), List.mem_map.2 ⟨x, List.mem_of_getElem? hj, rfl⟩, by simp⟩
  rw [if_pos hany]
  unfold tbOf
  simp only [Tb.mk.injEq, and_true]
  rw [List.map_map]
  refine List.ext_getElem? fun i => ?_
  rw [List.getElem?_map, List.getElem?_map, List.getElem?_set]
  by_cases hij : j = i
  · subst hij
    rw [hj, if_pos rfl, if_pos (List.getElem?_eq_some_iff.1 hj).1]
    simp
  · rw [if_neg hij]
    cases hi : L[i]? with
    | none => rfl
    | some y =>
      have : y.key ≠ x.key := fun e => hij (nodup_at (f := Le.key) hn hi hj e).symm
      simp [this]
theorem setLane_more {k : KeyT} (hno : laneP (tbOf L WT) k = none) (x : Le) (hx : x.key = k) (l' : Ln) (rv' : Value) : setLane (tbOf L WT) k l' = tbOf (L ++ [{ x with rv := rv', l := l' }]) WT := by
  unfold setLane
  have hany : ¬ (tbOf L WT).lanes.any (fun e => e.1 == k) = true := by
    intro h
    obtain ⟨e, he, h1⟩ := List.any_eq_true.1 h
    rw [laneP, Option.map_eq_none_iff, List.find?_eq_none] at hno
    exact hno e he h1
  rw [if_neg hany]
  unfold tbOf
  simp [hx]
/-- One lane has changed. -/
theorem TbAt.lane (h : TbAt W tb gl gw L WT ro) {j : Nat} {e : Le} (hj : L[j]? = some e) (ht : Touch (fun k => k = e.b ∨ k = e.gh ∨ e.rv.ownBlock = some k) W W') {rv' : Value} {l' : Ln} (hl : LnAt W' e.b e.gh rv' l') (ho : rv'.ownBlock = e.rv.ownBlock ∨ ∀ g, rv'.ownBlock = some g → W.heap.size ≤ g) :
    ∃ ro', TbAt W' tb gl gw (L.set j { e with rv := rv', l := l' }) WT ro' ∧ TStep W W' ro ro' := by
  have hm := List.mem_of_getElem? hj
  have hr := h.rn e hm
  have hS : ∀ k, (k = e.b ∨ k = e.gh ∨ e.rv.ownBlock = some k) → 4 ≤ ro k := fun k hk => by
    rcases hk with rfl | rfl | hk
    · omega
    · omega
    · have := hr.2.2 k hk; omega
  have hro : ∀ k, (if rv'.ownBlock = some k then 6 else ro k) = ro k ∨ W.heap.size ≤ k := fun k => by
    by_cases hk : rv'.ownBlock = some k
    · rcases ho with ho | ho
      · left
        rw [if_pos hk, hr.2.2 k (ho ▸ hk)]
      · exact .inr (ho k hk)
    · exact .inl (if_neg hk)
  have hold : ∀ k, k < W.heap.size → (if rv'.ownBlock = some k then 6 else ro k) = ro k := fun k hk => (hro k).resolve_right (by omega)
  have hel : ∀ {i : Nat} {x : Le}, (L.set j { e with rv := rv', l := l' })[i]? = some x → (i = j ∧ x = { e with rv := rv', l := l' }) ∨ (i ≠ j ∧ L[i]? = some x) := fun {i x} hi => by
    rw [List.getElem?_set] at hi
    split at hi
    · next e1 =>
      split at hi
      · cases hi; exact .inl ⟨e1.symm, rfl⟩
      · cases hi
    · next e1 => exact .inr ⟨fun e2 => e1 e2.symm, hi⟩
  have hb : ∀ {k : Nat}, ro k ≠ 0 → k < W.heap.size := fun {k} hk => h.lt k hk
  refine ⟨fun k => if rv'.ownBlock = some k then 6 else ro k, ⟨?_, ?_, ?_, fun x hx => ?_, fun x hx => ?_, h.inW, ?_, ?_, ?_, fun x hx => ?_, fun k hk => ?_, ?_, ?_, ?_⟩, ⟨ht.mono (fun k _ hk => by have := hS k hk; omega), hold⟩⟩
  · exact (ht.block tb (heap_lt h.head) (fun q => by have := hS _ q; have := h.rt; omega)).trans h.head
  · obtain ⟨M, c, h1, h2⟩ := h.lanes
    refine ⟨M, c, h1.keep (ht.block gl h1.lt (fun q => by have := hS _ q; have := h.rl; omega)), ?_⟩
    rw [h2]
    refine List.ext_getElem? fun i => ?_
    rw [List.getElem?_map, List.getElem?_map, List.getElem?_set]
    by_cases hij : j = i
    · subst hij
      rw [hj, if_pos rfl, if_pos (List.getElem?_eq_some_iff.1 hj).1]
      rfl
    · rw [if_neg hij]
  · obtain ⟨M, c, h1, h2⟩ := h.waits
    exact ⟨M, c, h1.keep (ht.block gw h1.lt (fun q => by have := hS _ q; have := h.rw; omega)), h2⟩
  · obtain ⟨i, hi⟩ := List.getElem?_of_mem hx
    rcases hel hi with ⟨_, rfl⟩ | ⟨hij, hi⟩
    · exact hl
    · have hxl := h.ln x (List.mem_of_getElem? hi)
      have hxr := h.rn x (List.mem_of_getElem? hi)
      refine hxl.keep ht.size (ht.block _ (heap_lt hxl.head) (fun q => ?_)) (ht.block _ hxl.held.lt (fun q => ?_)) (fun g hg => ht.block _ (hxl.row.lt g hg) (fun q => ?_))
      · rcases q with q | q | q
        · exact hij (h.oneb i j x e hi hj q)
        · have := hr.2.1; rw [← q] at this; omega
        · have := hr.2.2 _ q; omega
      · rcases q with q | q | q
        · have := hr.1; rw [← q] at this; omega
        · exact hij (h.oneg i j x e hi hj q)
        · have := hr.2.2 _ q; omega
      · have := hxr.2.2 g hg
        rcases q with q | q | q
        · have := hr.1; rw [← q] at this; omega
        · have := hr.2.1; rw [← q] at this; omega
        · exact hij (h.oner i j x e g hi hj hg q)
  · obtain ⟨i, hi⟩ := List.getElem?_of_mem hx
    rcases hel hi with ⟨_, rfl⟩ | ⟨_, hi⟩
    · exact h.keys e hm
    · exact h.keys x (List.mem_of_getElem? hi)
  · exact (hold tb (heap_lt h.head)).trans h.rt
  · obtain ⟨M, c, h1, h2⟩ := h.lanes
    exact (hold gl h1.lt).trans h.rl
  · obtain ⟨M, c, h1, h2⟩ := h.waits
    exact (hold gw h1.lt).trans h.rw
  · obtain ⟨i, hi⟩ := List.getElem?_of_mem hx
    rcases hel hi with ⟨_, rfl⟩ | ⟨hij, hi⟩
    · have hle := h.ln e hm
      exact ⟨(hold e.b (heap_lt hle.head)).trans hr.1, (hold e.gh hle.held.lt).trans hr.2.1, fun k hk => if_pos hk⟩
    · have hxl := h.ln x (List.mem_of_getElem? hi)
      have hxr := h.rn x (List.mem_of_getElem? hi)
      exact ⟨(hold x.b (heap_lt hxl.head)).trans hxr.1, (hold x.gh hxl.held.lt).trans hxr.2.1, fun k hk => (hold k (hxl.row.lt k hk)).trans (hxr.2.2 k hk)⟩
  · by_cases hk2 : rv'.ownBlock = some k
    · exact hl.row.lt k hk2
    · have hk3 : ro k ≠ 0 := by
        have : (if rv'.ownBlock = some k then 6 else ro k) ≠ 0 := hk
        rwa [if_neg hk2] at this
      exact Nat.lt_of_lt_of_le (h.lt k hk3) ht.size
  · intro i i' x y hi hi' e1
    rcases hel hi with ⟨rfl, rfl⟩ | ⟨hij, hi2⟩
    · rcases hel hi' with ⟨rfl, rfl⟩ | ⟨hij', hi2'⟩
      · rfl
      · exact h.oneb _ _ _ _ hj hi2' e1
    · rcases hel hi' with ⟨rfl, rfl⟩ | ⟨hij', hi2'⟩
      · exact h.oneb _ _ _ _ hi2 hj e1
      · exact h.oneb _ _ _ _ hi2 hi2' e1
  · intro i i' x y hi hi' e1
    rcases hel hi with ⟨rfl, rfl⟩ | ⟨hij, hi2⟩
    · rcases hel hi' with ⟨rfl, rfl⟩ | ⟨hij', hi2'⟩
      · rfl
      · exact h.oneg _ _ _ _ hj hi2' e1
    · rcases hel hi' with ⟨rfl, rfl⟩ | ⟨hij', hi2'⟩
      · exact h.oneg _ _ _ _ hi2 hj e1
      · exact h.oneg _ _ _ _ hi2 hi2' e1
  · intro i i' x y k hi hi' e1 e2
    have hnew : ∀ {i : Nat} {y : Le}, L[i]? = some y → y.rv.ownBlock = some k → rv'.ownBlock = some k → e.rv.ownBlock = some k := fun hi hy hr' => by
      rcases ho with ho | ho
      · exact ho ▸ hr'
      · have h7 := ho k hr'
        have h8 := (h.ln _ (List.mem_of_getElem? hi)).row.lt k hy
        omega
    rcases hel hi with ⟨rfl, rfl⟩ | ⟨hij, hi2⟩
    · rcases hel hi' with ⟨rfl, rfl⟩ | ⟨hij', hi2'⟩
      · rfl
      · exact h.oner _ _ _ _ k hj hi2' (hnew hi2' e2 e1) e2
    · rcases hel hi' with ⟨rfl, rfl⟩ | ⟨hij', hi2'⟩
      · exact h.oner _ _ _ _ k hi2 hj e1 (hnew hi2 e1 e2)
      · exact h.oner _ _ _ _ k hi2 hi2' e1 e2
end
end Go.Proofs.YtmchmlkbpocboaaGreatDoor

namespace Go.Proofs.YtmchmlkbpocboaaGreatDoor
open Go.RowKit
open Go.Maps (Keyed)

theorem wpList_put_run {P : Program} {w w' : World} {ops : Array Oper} {rest : List Oper} {o : Oper} {a : Act} {Q : Exit → Act → World → Prop} (hg : o.guard = none) (m x y : Operand) (M : TypeId) (hop : o.op = Op.mapUpdate M m x y) {mv xv yv : Value} (hm : a.eval m = mv) (hx : a.eval x = xv) (hy : a.eval y = yv) (hrun : (Instr.mapUpdate M mv xv yv).run P w = .ok () w') (hK : wpList P ops Q rest (a.put o.dst undef) w') : wpList P ops Q (o :: rest) a w := by
  refine wpList_plain hg fun K' hK' => ?_
  unfold Oper.wp
  simp only [execOp, hop, hm, hx, hy, Sem.run_bind, hrun, Result.andThen]
  exact hK' _ _ hK
/-- A lane is put behind the others. -/
theorem TbAt.more {W W' : World} {tb gl gw : Nat} {L : List Le} {WT : List Wt} {ro : Nat → Nat} (h : TbAt W tb gl gw L WT ro) (x : Le) (hno : ∀ e ∈ L, e.key ≠ x.key) (hk : x.key.length ≤ 1000) (hb : x.b = W.heap.size + 1) (hg : x.gh = W.heap.size) (hv : x.rv = .slice none 0 0)
    (hM : ∃ M c, MapIs Tryz.prog 9 W' gl M c ∧ M.map (fun e => (e.key, e.val)) = (L ++ [x]).map (fun e => (strV e.key, e.ptr))) (ht : Touch (fun k => k = gl) W W') (hl : LnAt W' x.b x.gh x.rv x.l) : ∃ ro', TbAt W' tb gl gw (L ++ [x]) WT ro' ∧ TStep W W' ro ro' := by
  have hold : ∀ k, k < W.heap.size → (if k = W.heap.size then 5 else if k = W.heap.size + 1 then 4 else ro k) = ro k := fun k hk => by rw [if_neg (by omega), if_neg (by omega)]
  have hel : ∀ {i : Nat} {y : Le}, (L ++ [x])[i]? = some y → (i = L.length ∧ y = x) ∨ (i < L.length ∧ L[i]? = some y) := fun {i y} hi => by
    by_cases hil : i < L.length
    · rw [List.getElem?_append_left hil] at hi
      exact .inr ⟨hil, hi⟩
    · rw [List.getElem?_append_right (by omega)] at hi
      have := (List.getElem?_eq_some_iff.1 hi).1
      simp at this
      have e : i = L.length := by omega
      rw [e, Nat.sub_self] at hi
      cases hi
      exact .inl ⟨e, rfl⟩
  have htl : ∀ k, k < W.heap.size → k ≠ gl → W'.heap[k]? = W.heap[k]? := fun k hk hne => ht.block k hk hne
  have hrl := h.rl
  refine ⟨fun k => if k = W.heap.size then 5 else if k = W.heap.size + 1 then 4 else ro k, ⟨?_, hM, ?_, fun y hy => ?_, fun y hy => ?_, h.inW, ?_, ?_, ?_, fun y hy => ?_, fun k hk => ?_, ?_, ?_, ?_⟩, ⟨ht.mono (fun k _ e => by rw [e, hrl]; omega), hold⟩⟩
  · exact (htl tb (heap_lt h.head) (fun e => by have := h.rt; rw [e] at this; omega)).trans h.head
  · obtain ⟨M, c, h1, h2⟩ := h.waits
    exact ⟨M, c, h1.keep (htl gw h1.lt (fun e => by have := h.rw; rw [e] at this; omega)), h2⟩
  · rcases List.mem_append.1 hy with hy | hy
    · have hyl := h.ln y hy
      have hyr := h.rn y hy
      exact hyl.keep ht.size (htl _ (heap_lt hyl.head) (fun e => by have := hyr.1; rw [e] at this; omega)) (htl _ hyl.held.lt (fun e => by have := hyr.2.1; rw [e] at this; omega)) (fun g hg => htl _ (hyl.row.lt g hg) (fun e => by have := hyr.2.2 g hg; rw [e] at this; omega))
    · rw [List.mem_singleton.1 hy]; exact hl
  · rcases List.mem_append.1 hy with hy | hy
    · exact h.keys y hy
    · rw [List.mem_singleton.1 hy]; exact hk
  · exact (hold tb (heap_lt h.head)).trans h.rt
  · obtain ⟨M, c, h1, h2⟩ := h.lanes
    exact (hold gl h1.lt).trans h.rl
  · obtain ⟨M, c, h1, h2⟩ := h.waits
    exact (hold gw h1.lt).trans h.rw
  · rcases List.mem_append.1 hy with hy | hy
    · have hyl := h.ln y hy
      have hyr := h.rn y hy
      exact ⟨(hold y.b (heap_lt hyl.head)).trans hyr.1, (hold y.gh hyl.held.lt).trans hyr.2.1, fun k hk => (hold k (hyl.row.lt k hk)).trans (hyr.2.2 k hk)⟩
    · rw [List.mem_singleton.1 hy]
      refine ⟨by rw [hb, if_neg (by omega), if_pos rfl], by rw [hg, if_pos rfl], fun k hk => by rw [hv] at hk; cases hk⟩
  · have h8 : x.b < W'.heap.size := heap_lt hl.head
    by_cases h1 : k = W.heap.size
    · omega
    · by_cases h2 : k = W.heap.size + 1
      · omega
      · have hk : (if k = W.heap.size then 5 else if k = W.heap.size + 1 then 4 else ro k) ≠ 0 := hk
        rw [if_neg h1, if_neg h2] at hk
        exact Nat.lt_of_lt_of_le (h.lt k hk) ht.size
  · intro i j y z hi hj e
    rcases hel hi with ⟨rfl, rfl⟩ | ⟨hil, hi2⟩
    · rcases hel hj with ⟨rfl, rfl⟩ | ⟨hjl, hj2⟩
      · rfl
      · have := heap_lt (h.ln z (List.mem_of_getElem? hj2)).head
        omega
    · rcases hel hj with ⟨rfl, rfl⟩ | ⟨hjl, hj2⟩
      · have := heap_lt (h.ln y (List.mem_of_getElem? hi2)).head
        omega
      · exact h.oneb _ _ _ _ hi2 hj2 e
  · intro i j y z hi hj e
    rcases hel hi with ⟨rfl, rfl⟩ | ⟨hil, hi2⟩
    · rcases hel hj with ⟨rfl, rfl⟩ | ⟨hjl, hj2⟩
      · rfl
      · have := (h.ln z (List.mem_of_getElem? hj2)).held.lt
        omega
    · rcases hel hj with ⟨rfl, rfl⟩ | ⟨hjl, hj2⟩
      · have := (h.ln y (List.mem_of_getElem? hi2)).held.lt
        omega
      · exact h.oneg _ _ _ _ hi2 hj2 e
  · intro i j y z k hi hj e1 e2
    rcases hel hi with ⟨rfl, rfl⟩ | ⟨hil, hi2⟩
    · rw [hv] at e1; cases e1
    · rcases hel hj with ⟨rfl, rfl⟩ | ⟨hjl, hj2⟩
      · rw [hv] at e2; cases e2
      · exact h.oner _ _ _ _ k hi2 hj2 e1 e2
/-- A key's lane: found, or made. -/
def LaneQ (W : World) (tb gl gw : Nat) (L : List Le) (WT : List Wt) (ro : Nat → Nat) (k : KeyT) (e : Ending) (W' : World) : Prop :=
  ∃ (L' : List Le) (ro' : Nat → Nat) (j : Nat) (x : Le), e = .returned (Le.ptr x) ∧ TbAt W' tb gl gw L' WT ro' ∧ L'[j]? = some x ∧ x.key = k ∧ TStep W W' ro ro' ∧ (L' = L ∨ ((∀ e ∈ L, e.key ≠ k) ∧ L' = L ++ [x] ∧ x.l = ln0))
set_option maxRecDepth 100000 in
set_option maxHeartbeats 2000000 in
theorem lane_any {W : World} {tb gl gw : Nat} {L : List Le} {WT : List Wt} {ro : Nat → Nat} {k : KeyT} (h : TbAt W tb gl gw L WT ro) (hk : k.length ≤ 1000) : Calls Tryz.prog 75 #[.pointer (some ⟨tb, 0, none⟩), strV k] W (LaneQ W tb gl gw L WT ro k) := by
  have c0 : W.cell? ⟨tb, 0, none⟩ = some (.map (some gl)) := cell_of h.head 0
  obtain ⟨M, c, hm, hmp⟩ := h.lanes
  have qT : ∀ (w : World), (binOp .eql 61 (.map (some gl)) (.map none)).run Tryz.prog w = .ok (.bool false) w := fun w => run_eql_map_nil w _ _ _ (some gl) Tryz.underlying61
  have hlook := lanes_look hm hmp hk
  cases hf : L.find? (fun e => e.key == k) with
  | some x =>
    rw [hf] at hlook
    have hlook : (Instr.lookup 61 (.map (some gl)) (strV k) false).run Tryz.prog W = .ok (Le.ptr x) W := hlook
    have h1 := List.find?_some hf
    rw [beq_iff_eq] at h1
    obtain ⟨j, hj⟩ := List.getElem?_of_mem (List.mem_of_find?_eq_some hf)
    have HF : Hid (LaneQ W tb gl gw L WT ro k (.returned (Le.ptr x)) W) := Lib.hid ⟨L, ro, j, x, rfl, h, hj, h1, TStep.refl W ro, .inl rfl⟩
    obtain ⟨K, hK⟩ : ∃ K, strV k = K := ⟨_, rfl⟩
    rw [hK] at hlook ⊢
    unfold Le.ptr at hlook HF
    clear h hm hmp hf h1 hj hK
    go_enter Tryz.func75, Tryz.ntmps75
    go_wp2_with fail
    go_ret
    exact HF.out
  | none =>
    rw [hf] at hlook
    have hlook : (Instr.lookup 61 (.map (some gl)) (strV k) false).run Tryz.prog W = .ok (.pointer none) W := hlook
    rw [List.find?_eq_none] at hf
    have hno : ∀ e ∈ L, e.key ≠ k := fun e he => by simpa using hf e he
    have hmiss : ∀ e ∈ M, e.key ≠ strV k := fun m hm' e => by
      obtain ⟨x, hx, h1, _⟩ := pair_mem hmp hm'
      rw [h1] at e
      exact hno x hx (strV_inj e)
    have hb1 := below_new (w := W) (.map #[] 0)
    have hb2 := below_new (w := W.alloc (.map #[] 0)) (.cells #[.map (some W.heap.size), .bool false, .slice none 0 0] 84)
    obtain ⟨W2, hW2⟩ : ∃ W2, W2 = (W.alloc (.map #[] 0)).alloc (.cells #[.map (some W.heap.size), .bool false, .slice none 0 0] 84) := ⟨_, rfl⟩
    have hbx : W2.heap[W.heap.size + 1]? = some (.cells #[.map (some W.heap.size), .bool false, .slice none 0 0] 84 (0, 0)) := by
      have := alloc_at (W.alloc (.map #[] 0)) (.cells #[.map (some W.heap.size), .bool false, .slice none 0 0] 84)
      rw [asz] at this
      rw [hW2]
      exact this
    have hbB : Below W.heap.size W W2 := by rw [hW2]; exact hb1.trans (hb2.mono (by rw [asz]; omega))
    have hs0 : SetI W2 W.heap.size [] := by
      have := SetI.made W
      rw [hW2]
      exact this.keep (hb2.block _ (by rw [asz]; omega))
    have hm2 := hm.keep (hbB.block gl hm.lt)
    obtain ⟨r1, r2⟩ := hm2.put_miss keyedS Tryz.underlying61 (v := .pointer (some ⟨W.heap.size + 1, 0, none⟩)) (keyS hk) hmiss
    obtain ⟨W3, hW3⟩ : ∃ W3, W3 = ({ W2 with heap := W2.heap.setIfInBounds gl (.map (M ++ [(⟨strV k, .pointer (some ⟨W.heap.size + 1, 0, none⟩), c⟩ : MapEntry)]).toArray (c + 1)) } : World) := ⟨_, rfl⟩
    rw [← hW3] at r1 r2
    have hT3 : Touch (fun k => k = gl) W2 W3 := by rw [hW3]; exact (Touch.refl (fun k => k = gl) W2).set gl _ (fun _ => rfl)
    have hgl := hm.lt
    have hbx3 := (hT3.block _ (heap_lt hbx) (fun e => by omega)).trans hbx
    have hln : LnAt W3 (W.heap.size + 1) W.heap.size (.slice none 0 0) ln0 := ⟨hbx3, hs0.touch hT3 (fun e => by omega), .inl ⟨rfl, rfl, rfl⟩, (fun c hc => by cases hc), ⟨by omega, (fun e => by cases e), fun e => by cases e⟩⟩
    have hlook3 : (Instr.lookup 61 (.map (some gl)) (strV k) false).run Tryz.prog W3 = .ok (.pointer (some ⟨W.heap.size + 1, 0, none⟩)) W3 := by
      have hget : (M ++ [(⟨strV k, .pointer (some ⟨W.heap.size + 1, 0, none⟩), c⟩ : MapEntry)])[M.length]? = some ⟨strV k, .pointer (some ⟨W.heap.size + 1, 0, none⟩), c⟩ := by simp
      exact r2.look_hit keyedS Tryz.underlying61 (keyS hk) hget rfl false
    have htb : tb ≠ gl := fun e => by have h1 := h.rt; have h2 := h.rl; rw [e, h2] at h1; cases h1
    have c2 : W2.cell? ⟨tb, 0, none⟩ = some (.map (some gl)) := (hbB.cell (p := ⟨tb, 0, none⟩) (heap_lt h.head)).trans c0
    have c3 : W3.cell? ⟨tb, 0, none⟩ = some (.map (some gl)) := (World.cell?_of_block (a := ⟨tb, 0, none⟩) (hT3.block tb (Nat.lt_of_lt_of_le (heap_lt h.head) hbB.size) htb)).trans c2
    have HF : Hid (LaneQ W tb gl gw L WT ro k (.returned (.pointer (some ⟨W.heap.size + 1, 0, none⟩))) W3) := Lib.hid (by
      obtain ⟨ro', a, b⟩ := h.more (W' := W3) ⟨k, W.heap.size + 1, W.heap.size, .slice none 0 0, ln0⟩ hno hk rfl rfl rfl ⟨_, _, r2, by rw [List.map_append, List.map_append, hmp]; rfl⟩ ((Touch.of_below hbB).trans hT3 (fun k _ e => e)) hln
      exact ⟨_, ro', L.length, _, rfl, a, by simp, rfl, b, .inr ⟨hno, rfl, rfl⟩⟩)
    obtain ⟨K, hK⟩ : ∃ K, strV k = K := ⟨_, rfl⟩
    rw [hK] at hlook hlook3 r1 ⊢
    have HW3 := Lib.hid hW3
    have HW2 := Lib.hid hW2
    have HR1 := Lib.hid r1
    have hmm := @run_makeMap Tryz.prog
    rw [hW2] at c2
    clear h hm hmp hf hno hmiss hb1 hb2 hbx hbB hs0 hm2 r2 hT3 hgl hbx3 hln htb hW3 hW2 r1 hK
    go_enter Tryz.func75, Tryz.ntmps75
    go_wp2_with (at_mapUpdate; rw [← HW2.out]; refine wpList_put_run rfl _ _ _ _ rfl rfl rfl rfl HR1.out ?_)
    go_ret
    exact HF.out
end Go.Proofs.YtmchmlkbpocboaaGreatDoor
