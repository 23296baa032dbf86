/- Maps told by their entries: look-up, store, delete, length, range. Nothing here speaks of the program. -/
import Derived.Test.YtmchmlkbpocboaaGreatDoorZBasA
import Derived.Maps.RangeWalk
import Derived.Maps.OwnSet
import Derived.Maps.OwnOps
set_option linter.unusedSimpArgs false
set_option linter.unusedVariables false
set_option linter.unnecessarySimpa false
namespace Go.Proofs.YtmchmlkbpocboaaGreatDoor
open Go.RowKit
open Go.Maps (Keyed)

/-- Block r is a map of these entries: each key is one of type K, no key and no stamp twice, each stamp below the clock. -/
structure MapIs (P : Program) (K : TypeId) (w : World) (r : Nat) (L : List MapEntry) (clock : Nat) : Prop where
  at_ : w.heap[r]? = some (.map L.toArray clock)
  keys : ∀ e ∈ L, ∃ l, keyOf P K e.key = some l
  one : (L.map (·.key)).Nodup
  born : ∀ e ∈ L, e.born < clock
  apart : (L.map (·.born)).Nodup

section
variable {P : Program} {K E M : TypeId} {w : World} {r : Nat} {L : List MapEntry} {clock : Nat}
theorem MapIs.keep {w' : World} (h : MapIs P K w r L clock) (hk : w'.heap[r]? = w.heap[r]?) : MapIs P K w' r L clock := ⟨hk.trans h.at_, h.keys, h.one, h.born, h.apart⟩
theorem MapIs.lt (h : MapIs P K w r L clock) : r < w.heap.size := heap_lt h.at_
theorem MapIs.made (P : Program) (K : TypeId) (w : World) : MapIs P K (w.alloc (.map #[] 0)) w.heap.size [] 0 := ⟨alloc_at w _, (fun e he => by cases he), List.nodup_nil, (fun e he => by cases he), List.nodup_nil⟩
theorem MapIs.inj (h : MapIs P K w r L clock) {i j : Nat} {a b : MapEntry} (ha : L[i]? = some a) (hb : L[j]? = some b) (hk : a.key = b.key) : i = j := by
  have hi := (List.getElem?_eq_some_iff.1 ha)
  have hj := (List.getElem?_eq_some_iff.1 hb)
  obtain ⟨hi, rfl⟩ := hi
  obtain ⟨hj, rfl⟩ := hj
  exact (List.getElem_inj (h₀ := by simpa using hi) (h₁ := by simpa using hj) h.one).1 (by simpa using hk)
theorem MapIs.find_hit (h : MapIs P K w r L clock) (KK : Keyed P K) {x : Value} {lx : Lit} (hx : keyOf P K x = some lx) {j : Nat} {e : MapEntry} (hj : L[j]? = some e) (he : e.key = x) (w' : World) : (Instr.findKey K x L).run P w' = .ok (some (j, e.val)) w' := by
  rcases KK.find w' hx L h.keys with ⟨_, h2⟩ | ⟨i, e', h1, h2, h3⟩
  · exact absurd he (h2 e (List.mem_of_getElem? hj))
  · obtain rfl : i = j := h.inj h2 hj (h3.trans he.symm)
    rw [hj] at h2
    cases h2
    exact h1
theorem MapIs.find_miss (h : MapIs P K w r L clock) (KK : Keyed P K) {x : Value} {lx : Lit} (hx : keyOf P K x = some lx) (hn : ∀ e ∈ L, e.key ≠ x) (w' : World) : (Instr.findKey K x L).run P w' = .ok none w' := by
  rcases KK.find w' hx L h.keys with ⟨h1, _⟩ | ⟨i, e', h1, h2, h3⟩
  · exact h1
  · exact absurd h3 (hn e' (List.mem_of_getElem? h2))

theorem MapIs.look_hit (h : MapIs P K w r L clock) (KK : Keyed P K) (hM : P.underlying M = some (.map K E)) {x : Value} {lx : Lit} (hx : keyOf P K x = some lx) {j : Nat} {e : MapEntry} (hj : L[j]? = some e) (he : e.key = x) (c : Bool) :
    (Instr.lookup M (.map (some r)) x c).run P w = .ok (if c then .tuple #[e.val, .bool true] else e.val) w := by
  simp [Instr.lookup, run_underlying hM, MapKept.run_getObj_map h.at_, KK.check w _ hx, h.find_hit KK hx hj he, Result.andThen]
theorem MapIs.look_miss (h : MapIs P K w r L clock) (KK : Keyed P K) (hM : P.underlying M = some (.map K E)) {z : Value} (hz : (zeroValue E).run P w = .ok z w) {x : Value} {lx : Lit} (hx : keyOf P K x = some lx) (hn : ∀ e ∈ L, e.key ≠ x) (c : Bool) :
    (Instr.lookup M (.map (some r)) x c).run P w = .ok (if c then .tuple #[z, .bool false] else z) w := by
  simp [Instr.lookup, run_underlying hM, MapKept.run_getObj_map h.at_, KK.check w _ hx, h.find_miss KK hx hn, hz, Result.andThen]

theorem nodup_set {α : Type} {l : List α} {j : Nat} {x : α} (h : l.Nodup) (hx : l[j]? = some x) : l.set j x = l := by
  refine List.ext_getElem? fun i => ?_
  rw [List.getElem?_set]
  split
  · subst i
    have := (List.getElem?_eq_some_iff.1 hx).1
    rw [if_pos this, hx]
  · rfl
theorem map_set' {α β : Type} (f : α → β) (l : List α) (j : Nat) (x : α) : (l.set j x).map f = (l.map f).set j (f x) := by
  refine List.ext_getElem? fun i => ?_
  simp only [List.getElem?_map, List.getElem?_set, List.length_map]
  split
  · split <;> rfl
  · rfl
theorem list_modify (l : List MapEntry) (j : Nat) (f : MapEntry → MapEntry) {e : MapEntry} (hj : l[j]? = some e) : l.modify j f = l.set j (f e) := by
  refine List.ext_getElem? fun i => ?_
  have hjl := (List.getElem?_eq_some_iff.1 hj).1
  rw [List.getElem?_modify, List.getElem?_set]
  split
  · subst i; rw [hj]; rfl
  · simp
theorem MapIs.put_hit (h : MapIs P K w r L clock) (KK : Keyed P K) (hM : P.underlying M = some (.map K E)) {x v : Value} {lx : Lit} (hx : keyOf P K x = some lx) {j : Nat} {e : MapEntry} (hj : L[j]? = some e) (he : e.key = x) :
    (Instr.mapUpdate M (.map (some r)) x v).run P w = .ok () { w with heap := w.heap.setIfInBounds r (.map (L.set j { e with val := v }).toArray clock) } ∧
    MapIs P K { w with heap := w.heap.setIfInBounds r (.map (L.set j { e with val := v }).toArray clock) } r (L.set j { e with val := v }) clock := by
  have hjl := (List.getElem?_eq_some_iff.1 hj).1
  have hin : e ∈ L := List.mem_of_getElem? hj
  have hmod := list_modify L j (fun e => { e with key := x, val := v }) hj
  have he' : ({ e with key := x, val := v } : MapEntry) = { e with val := v } := by rw [← he]
  constructor
  · have hst := KK.stays w hx
    simp [Instr.mapUpdate, run_underlying hM, MapKept.run_getObj_map h.at_, KK.check w _ hx, h.find_hit KK hx hj he, hj, he, hst, MapKept.run_setObj_map _ h.at_, Result.andThen]
    rw [hmod, ← he]
  · refine ⟨by simp [h.lt], fun y hy => ?_, ?_, fun y hy => ?_, ?_⟩
    · rcases List.mem_or_eq_of_mem_set hy with hy | rfl
      · exact h.keys y hy
      · exact h.keys e hin
    · rw [map_set', nodup_set h.one (by rw [List.getElem?_map, hj]; rfl)]; exact h.one
    · rcases List.mem_or_eq_of_mem_set hy with hy | rfl
      · exact h.born y hy
      · exact h.born e hin
    · rw [map_set', nodup_set h.apart (by rw [List.getElem?_map, hj]; rfl)]; exact h.apart
theorem MapIs.put_miss (h : MapIs P K w r L clock) (KK : Keyed P K) (hM : P.underlying M = some (.map K E)) {x v : Value} {lx : Lit} (hx : keyOf P K x = some lx) (hn : ∀ e ∈ L, e.key ≠ x) :
    (Instr.mapUpdate M (.map (some r)) x v).run P w = .ok () { w with heap := w.heap.setIfInBounds r (.map (L ++ [(⟨x, v, clock⟩ : MapEntry)]).toArray (clock + 1)) } ∧
    MapIs P K { w with heap := w.heap.setIfInBounds r (.map (L ++ [(⟨x, v, clock⟩ : MapEntry)]).toArray (clock + 1)) } r (L ++ [(⟨x, v, clock⟩ : MapEntry)]) (clock + 1) := by
  constructor
  · simp [Instr.mapUpdate, run_underlying hM, MapKept.run_getObj_map h.at_, KK.check w _ hx, h.find_miss KK hx hn, MapKept.run_setObj_map _ h.at_, Result.andThen]
  · refine ⟨by simp [h.lt], fun y hy => ?_, ?_, fun y hy => ?_, ?_⟩
    · rcases List.mem_append.1 hy with hy | hy
      · exact h.keys y hy
      · rw [List.mem_singleton.1 hy]; exact ⟨lx, hx⟩
    · rw [List.map_append, List.nodup_append]
      refine ⟨h.one, by simp, fun a ha b hb => ?_⟩
      obtain ⟨e, he, rfl⟩ := List.mem_map.1 ha
      obtain rfl : b = x := by simpa using hb
      exact hn e he
    · rcases List.mem_append.1 hy with hy | hy
      · have := h.born y hy; omega
      · rw [List.mem_singleton.1 hy]; exact Nat.lt_succ_self _
    · rw [List.map_append, List.nodup_append]
      refine ⟨h.apart, by simp, fun a ha b hb => ?_⟩
      obtain ⟨e, he, rfl⟩ := List.mem_map.1 ha
      obtain rfl : b = clock := by simpa using hb
      exact Nat.ne_of_lt (h.born e he)
theorem MapIs.del_hit (h : MapIs P K w r L clock) (KK : Keyed P K) (hM : P.underlying M = some (.map K E)) (ty : TypeId) {x : Value} {lx : Lit} (hx : keyOf P K x = some lx) {j : Nat} {e : MapEntry} (hj : L[j]? = some e) (he : e.key = x) :
    (Builtin.delete_ #[M, K] ty #[.map (some r), x]).run P w = .ok (.tuple #[]) { w with heap := w.heap.setIfInBounds r (.map (L.eraseIdx j).toArray clock) } ∧
    MapIs P K { w with heap := w.heap.setIfInBounds r (.map (L.eraseIdx j).toArray clock) } r (L.eraseIdx j) clock := by
  have hjl := (List.getElem?_eq_some_iff.1 hj).1
  have hsub := List.eraseIdx_sublist L j
  constructor
  · have her : L.toArray.eraseIdxIfInBounds j = (L.eraseIdx j).toArray := by
      unfold Array.eraseIdxIfInBounds
      rw [dif_pos (by simpa using hjl)]
      apply Array.ext'
      simp
    simp [Builtin.delete_, run_underlying hM, MapKept.run_getObj_map h.at_, KK.check w _ hx, h.find_hit KK hx hj he, her, MapKept.run_setObj_map _ h.at_, Result.andThen]
  · exact ⟨by simp [h.lt], fun y hy => h.keys y (hsub.subset hy), (hsub.map _).nodup h.one, fun y hy => h.born y (hsub.subset hy), (hsub.map _).nodup h.apart⟩
theorem MapIs.len (h : MapIs P K w r L clock) (hM : P.underlying M = some (.map K E)) (ty : TypeId) : (Builtin.len_ #[M] ty #[.map (some r)]).run P w = .ok (.int .i64 (L.length : Int)) w := by
  simp [Builtin.len_, run_underlying hM, MapKept.run_getObj_map h.at_, Result.andThen, goInt]
theorem MapIs.range (h : MapIs P K w r L clock) (hM : P.underlying M = some (.map K E)) : (Instr.range M (.map (some r))).run P w = .ok (.pointer (some ⟨w.heap.size, 0, none⟩)) (w.alloc (.mapIter (some r) clock #[] clock)) := run_range_map w M K E r L.toArray clock hM h.at_

/-- One step of a range over a map, told by what was seen. -/
theorem MapIs.next (h : MapIs P K w r L clock) (ty : TypeId) {it c0 : Nat} {seen : Array Nat} (hit : w.heap[it]? = some (.mapIter (some r) clock seen c0)) (hc : clock ≤ c0) :
    ((∀ e ∈ L, e.born ∈ seen) ∧ (Instr.next (.pointer (some ⟨it, 0, none⟩)) false ty).run P w = .ok (.tuple #[.bool false]) w) ∨
    ∃ e ∈ L, e.born ∉ seen ∧ ∃ w1 : World, (w1 = w ∨ w1 = w.drew) ∧ (Instr.next (.pointer (some ⟨it, 0, none⟩)) false ty).run P w = .ok (.tuple #[.bool true, e.key, e.val]) { w1 with heap := w1.heap.setIfInBounds it (.mapIter (some r) clock (seen.push e.born) clock) } := by
  rcases run_next_at (P := P) w ty it r clock c0 seen L.toArray clock hit h.at_ (fun x hx => h.born x (by simpa using hx)) hc with ⟨h0, hr⟩ | ⟨e, he, w1, hw, hr⟩
  · left
    refine ⟨fun e he => ?_, hr⟩
    unfold leftOf at h0
    have h1 : Array.filter (fun e => !seen.contains e.born) L.toArray = #[] := Array.eq_empty_of_size_eq_zero h0
    have := (Array.filter_eq_empty_iff.1 h1) e (by simpa using he)
    simpa using this
  · right
    unfold leftOf at he
    have he' : e ∈ L ∧ e.born ∉ seen := by
      have := (Array.mem_filter.1 (Array.mem_toList_iff.1 he))
      simpa using this
    exact ⟨e, he'.1, he'.2, w1, hw, hr⟩
end

/-! at the operation, for the walk -/
section
variable {P : Program} (w : World) {ops : Array Oper} {rest : List Oper} {o : Oper} {a : Act} {Q : Exit → Act → World → Prop}
theorem wpList_look_hit (hg : o.guard = none) (m x : Operand) (M : TypeId) (c : Bool) (hop : o.op = Op.lookup M m x c) {K E : TypeId} (KK : Keyed P K) (hM : P.underlying M = some (.map K E)) {r clock : Nat} {L : List MapEntry} (h : MapIs P K w r L clock)
    (hm : a.eval m = .map (some r)) (key : Value) (lx : Lit) (hx : a.eval x = key) (hkey : keyOf P K key = some lx) {j : Nat} {e : MapEntry} (hj : L[j]? = some e) (he : e.key = key)
    (hK : wpList P ops Q rest (a.put o.dst (if c then .tuple #[e.val, .bool true] else e.val)) w) : wpList P ops Q (o :: rest) a w := by
  refine wpList_plain hg fun K' hK' => ?_
  unfold Oper.wp
  simp only [execOp, hop, hm, hx, Sem.run_bind, Sem.run_pure, h.look_hit KK hM hkey hj he c, Result.andThen]
  exact hK' _ _ hK
theorem wpList_look_miss (hg : o.guard = none) (m x : Operand) (M : TypeId) (c : Bool) (hop : o.op = Op.lookup M m x c) {K E : TypeId} (KK : Keyed P K) (hM : P.underlying M = some (.map K E)) {z : Value} (hz : (zeroValue E).run P w = .ok z w) {r clock : Nat} {L : List MapEntry} (h : MapIs P K w r L clock)
    (hm : a.eval m = .map (some r)) (key : Value) (lx : Lit) (hx : a.eval x = key) (hkey : keyOf P K key = some lx) (hn : ∀ e ∈ L, e.key ≠ key)
    (hK : wpList P ops Q rest (a.put o.dst (if c then .tuple #[z, .bool false] else z)) w) : wpList P ops Q (o :: rest) a w := by
  refine wpList_plain hg fun K' hK' => ?_
  unfold Oper.wp
  simp only [execOp, hop, hm, hx, Sem.run_bind, Sem.run_pure, h.look_miss KK hM hz hkey hn c, Result.andThen]
  exact hK' _ _ hK
theorem wpList_put_hit (hg : o.guard = none) (m x v : Operand) (M : TypeId) (hop : o.op = Op.mapUpdate M m x v) {K E : TypeId} (KK : Keyed P K) (hM : P.underlying M = some (.map K E)) {r clock : Nat} {L : List MapEntry} (h : MapIs P K w r L clock)
    (hm : a.eval m = .map (some r)) (key : Value) (lx : Lit) (hx : a.eval x = key) (hkey : keyOf P K key = some lx) (val : Value) (hv : a.eval v = val) {j : Nat} {e : MapEntry} (hj : L[j]? = some e) (he : e.key = key)
    (hK : ∀ w', w' = { w with heap := w.heap.setIfInBounds r (.map (L.set j { e with val := val }).toArray clock) } → MapIs P K w' r (L.set j { e with val := val }) clock → wpList P ops Q rest (a.put o.dst undef) w') : wpList P ops Q (o :: rest) a w := by
  refine wpList_plain hg fun K' hK' => ?_
  obtain ⟨h1, h2⟩ := h.put_hit KK hM (v := val) hkey hj he
  unfold Oper.wp
  simp only [execOp, hop, hm, hx, hv, Sem.run_bind, h1, Result.andThen]
  exact hK' _ _ (hK _ rfl h2)
theorem wpList_put_miss (hg : o.guard = none) (m x v : Operand) (M : TypeId) (hop : o.op = Op.mapUpdate M m x v) {K E : TypeId} (KK : Keyed P K) (hM : P.underlying M = some (.map K E)) {r clock : Nat} {L : List MapEntry} (h : MapIs P K w r L clock)
    (hm : a.eval m = .map (some r)) (key : Value) (lx : Lit) (hx : a.eval x = key) (hkey : keyOf P K key = some lx) (val : Value) (hv : a.eval v = val) (hn : ∀ e ∈ L, e.key ≠ key)
    (hK : ∀ w', w' = { w with heap := w.heap.setIfInBounds r (.map (L ++ [(⟨key, val, clock⟩ : MapEntry)]).toArray (clock + 1)) } → MapIs P K w' r (L ++ [(⟨key, val, clock⟩ : MapEntry)]) (clock + 1) → wpList P ops Q rest (a.put o.dst undef) w') : wpList P ops Q (o :: rest) a w := by
  refine wpList_plain hg fun K' hK' => ?_
  obtain ⟨h1, h2⟩ := h.put_miss KK hM (v := val) hkey hn
  unfold Oper.wp
  simp only [execOp, hop, hm, hx, hv, Sem.run_bind, h1, Result.andThen]
  exact hK' _ _ (hK _ rfl h2)
theorem wpList_del_hit (hg : o.guard = none) (m x : Operand) (M K : TypeId) (hop : o.op = Op.call { callee := Callee.builtin Builtin.delete, args := #[m, x], argTypes := #[M, K] }) {E : TypeId} (KK : Keyed P K) (hM : P.underlying M = some (.map K E)) {r clock : Nat} {L : List MapEntry} (h : MapIs P K w r L clock)
    (hm : a.eval m = .map (some r)) (key : Value) (lx : Lit) (hx : a.eval x = key) (hkey : keyOf P K key = some lx) {j : Nat} {e : MapEntry} (hj : L[j]? = some e) (he : e.key = key)
    (hK : ∀ w', w' = { w with heap := w.heap.setIfInBounds r (.map (L.eraseIdx j).toArray clock) } → MapIs P K w' r (L.eraseIdx j) clock → wpList P ops Q rest (a.put o.dst (.tuple #[])) w') : wpList P ops Q (o :: rest) a w := by
  refine wpList_plain hg fun K' hK' => ?_
  obtain ⟨h1, h2⟩ := h.del_hit KK hM o.type hkey hj he
  unfold Oper.wp
  simp only [execOp, hop, resolve, invoke, builtin, Sem.run_bind, Sem.run_pure, Result.andThen_ok, List.map_toArray, List.map_cons, List.map_nil, hm, hx, h1]
  exact hK' _ _ (hK _ rfl h2)
theorem wpList_map_len (hg : o.guard = none) (m : Operand) (M : TypeId) (hop : o.op = Op.call { callee := Callee.builtin Builtin.len, args := #[m], argTypes := #[M] }) {K E : TypeId} (hM : P.underlying M = some (.map K E)) {r clock : Nat} {L : List MapEntry} (h : MapIs P K w r L clock)
    (hm : a.eval m = .map (some r)) (hK : wpList P ops Q rest (a.put o.dst (.int .i64 (L.length : Int))) w) : wpList P ops Q (o :: rest) a w := by
  refine wpList_plain hg fun K' hK' => ?_
  unfold Oper.wp
  simp only [execOp, hop, resolve, invoke, builtin, Sem.run_bind, Sem.run_pure, Result.andThen_ok, List.map_toArray, List.map_cons, List.map_nil, hm, h.len hM o.type]
  exact hK' _ _ hK
theorem wpList_map_range (hg : o.guard = none) (m : Operand) (M : TypeId) (hop : o.op = Op.range M m) {K E : TypeId} (hM : P.underlying M = some (.map K E)) {r clock : Nat} {L : List MapEntry} (h : MapIs P K w r L clock) (hm : a.eval m = .map (some r))
    (hK : wpList P ops Q rest (a.put o.dst (.pointer (some ⟨w.heap.size, 0, none⟩))) (w.alloc (.mapIter (some r) clock #[] clock))) : wpList P ops Q (o :: rest) a w := by
  refine wpList_plain hg fun K' hK' => ?_
  unfold Oper.wp
  simp only [execOp, hop, hm, Sem.run_bind, Sem.run_pure, h.range hM, Result.andThen]
  exact hK' _ _ hK
theorem wpList_map_next (hg : o.guard = none) (it : Operand) (hop : o.op = Op.next it false) {K : TypeId} {r clock : Nat} {L : List MapEntry} (h : MapIs P K w r L clock) {i c0 : Nat} {seen : Array Nat} (hit : w.heap[i]? = some (.mapIter (some r) clock seen c0)) (hc : clock ≤ c0) (hi : a.eval it = .pointer (some ⟨i, 0, none⟩))
    (hDone : (∀ e ∈ L, e.born ∈ seen) → wpList P ops Q rest (a.put o.dst (.tuple #[.bool false])) w)
    (hMore : ∀ e ∈ L, e.born ∉ seen → ∀ w1 : World, (w1 = w ∨ w1 = w.drew) → wpList P ops Q rest (a.put o.dst (.tuple #[.bool true, e.key, e.val])) { w1 with heap := w1.heap.setIfInBounds i (.mapIter (some r) clock (seen.push e.born) clock) }) : wpList P ops Q (o :: rest) a w := by
  refine wpList_plain hg fun K' hK' => ?_
  unfold Oper.wp
  rcases h.next o.type hit hc with ⟨h1, hr⟩ | ⟨e, he, hs, w1, hw, hr⟩
  · simp only [execOp, hop, hi, Sem.run_bind, Sem.run_pure, hr, Result.andThen]
    exact hK' _ _ (hDone h1)
  · simp only [execOp, hop, hi, Sem.run_bind, Sem.run_pure, hr, Result.andThen]
    exact hK' _ _ (hMore e he hs w1 hw)
/-- A range's iterator over map r (or over none), with the stamps that it has handed out. -/
def IterAt (w : World) (it : Nat) (r : Option Nat) (clock : Nat) (seen : Array Nat) : Prop := ∃ (s c0 : Nat), (r ≠ none → s = clock ∧ clock ≤ c0) ∧ w.heap[it]? = some (.mapIter r s seen c0)
theorem IterAt.keep {w' : World} {it : Nat} {r : Option Nat} {clock : Nat} {seen : Array Nat} (h : IterAt w it r clock seen) (hk : w'.heap[it]? = w.heap[it]?) : IterAt w' it r clock seen := by
  obtain ⟨s, c0, h1, h2⟩ := h
  exact ⟨s, c0, h1, hk.trans h2⟩
theorem IterAt.lt {it : Nat} {r : Option Nat} {clock : Nat} {seen : Array Nat} (h : IterAt w it r clock seen) : it < w.heap.size := by
  obtain ⟨s, c0, h1, h2⟩ := h
  exact heap_lt h2
theorem wpList_map_start (hg : o.guard = none) (m : Operand) (M : TypeId) (hop : o.op = Op.range M m) {K E : TypeId} (hM : P.underlying M = some (.map K E)) {r clock : Nat} {L : List MapEntry} (h : MapIs P K w r L clock) (hm : a.eval m = .map (some r))
    (hK : ∀ w', IterAt w' w.heap.size (some r) clock #[] → Below w.heap.size w w' → w'.heap.size = w.heap.size + 1 → wpList P ops Q rest (a.put o.dst (.pointer (some ⟨w.heap.size, 0, none⟩))) w') : wpList P ops Q (o :: rest) a w :=
  wpList_map_range w hg m M hop hM h hm (hK _ ⟨clock, clock, fun _ => ⟨rfl, Nat.le_refl _⟩, alloc_at _ _⟩ (below_new _) (asz _ _))
theorem wpList_map_step (hg : o.guard = none) (it : Operand) (hop : o.op = Op.next it false) {K : TypeId} {r clock : Nat} {L : List MapEntry} (h : MapIs P K w r L clock) {i : Nat} {seen : Array Nat} (hit : IterAt w i (some r) clock seen) (hne : i ≠ r) (hi : a.eval it = .pointer (some ⟨i, 0, none⟩))
    (hDone : (∀ e ∈ L, e.born ∈ seen) → wpList P ops Q rest (a.put o.dst (.tuple #[.bool false])) w)
    (hMore : ∀ e ∈ L, e.born ∉ seen → ∀ w' : World, IterAt w' i (some r) clock (seen.push e.born) → Touch (· = i) w w' → w'.heap.size = w.heap.size → (Instr.entry (.pointer (some ⟨i, 0, none⟩))).run P w' = .ok (.tuple #[e.key, e.val]) w' → wpList P ops Q rest (a.put o.dst (.tuple #[.bool true, e.key, e.val])) w') : wpList P ops Q (o :: rest) a w := by
  obtain ⟨s, c0, h1, h2⟩ := hit
  obtain ⟨rfl, hc⟩ := h1 (by simp)
  refine wpList_map_next w hg it hop h h2 hc hi hDone fun e he hs w1 hw => ?_
  have hT : Touch (· = i) w w1 := by
    rcases hw with rfl | rfl
    · exact .refl _ _
    · exact (Touch.refl _ _).drew
  have hsz : w1.heap.size = w.heap.size := by rcases hw with rfl | rfl <;> rfl
  have hil := heap_lt h2
  have hat : ({ w1 with heap := w1.heap.setIfInBounds i (.mapIter (some r) s (seen.push e.born) s) } : World).heap[i]? = some (.mapIter (some r) s (seen.push e.born) s) := by
    show (w1.heap.setIfInBounds i _)[i]? = _
    rw [Array.getElem?_setIfInBounds_self, if_pos (by rw [hsz]; exact hil)]
  have hmr : ({ w1 with heap := w1.heap.setIfInBounds i (.mapIter (some r) s (seen.push e.born) s) } : World).heap[r]? = some (.map L.toArray s) := by
    show (w1.heap.setIfInBounds i _)[r]? = _
    rw [Array.getElem?_setIfInBounds_ne hne]
    rcases hw with rfl | rfl
    · exact h.at_
    · exact h.at_
  refine hMore e he hs _ ⟨s, s, fun _ => ⟨rfl, Nat.le_refl _⟩, hat⟩ (hT.set i _ (fun _ => rfl)) (by simpa using hsz) ?_
  exact run_entry_at _ i r s seen L.toArray s e hat hmr (by simpa using he) (by simpa using h.apart)
theorem wpList_nil_start (hg : o.guard = none) (m : Operand) (M : TypeId) (hop : o.op = Op.range M m) {K E : TypeId} (hM : P.underlying M = some (.map K E)) (hm : a.eval m = .map none)
    (hK : ∀ w', IterAt w' w.heap.size none 0 #[] → Below w.heap.size w w' → w'.heap.size = w.heap.size + 1 → wpList P ops Q rest (a.put o.dst (.pointer (some ⟨w.heap.size, 0, none⟩))) w') : wpList P ops Q (o :: rest) a w := by
  refine wpList_plain hg fun K' hK' => ?_
  have hr : (Instr.range M (.map none)).run P w = .ok (.pointer (some ⟨w.heap.size, 0, none⟩)) (w.alloc (.mapIter none 0 #[] 0)) := by
    simp [Instr.range, run_underlying hM, newObj, Sem.run, Result.andThen]
  unfold Oper.wp
  simp only [execOp, hop, hm, Sem.run_bind, Sem.run_pure, hr, Result.andThen]
  exact hK' _ _ (hK _ ⟨0, 0, (fun h => absurd rfl h), alloc_at _ _⟩ (below_new _) (asz _ _))
theorem wpList_nil_step (hg : o.guard = none) (it : Operand) (hop : o.op = Op.next it false) {i clock : Nat} {seen : Array Nat} (hit : IterAt w i none clock seen) (hi : a.eval it = .pointer (some ⟨i, 0, none⟩))
    (hDone : wpList P ops Q rest (a.put o.dst (.tuple #[.bool false])) w) : wpList P ops Q (o :: rest) a w := by
  obtain ⟨s, c0, h1, h2⟩ := hit
  refine wpList_plain hg fun K' hK' => ?_
  have hr : (Instr.next (.pointer (some ⟨i, 0, none⟩)) false o.type).run P w = .ok (.tuple #[.bool false]) w := by
    simp [Instr.next, getObj, Sem.run_bind, Sem.run, h2, Result.andThen]
  unfold Oper.wp
  simp only [execOp, hop, hi, Sem.run_bind, Sem.run_pure, hr, Result.andThen]
  exact hK' _ _ hDone
end

/-! what a range has seen -/
def seenSum (l : List (Nat × Nat)) (seen : Array Nat) : Nat := (l.map fun x => if x.1 ∈ seen then x.2 else 0).sum
def unseen (l : List (Nat × Nat)) (seen : Array Nat) : Nat := (l.map fun x => if x.1 ∈ seen then 0 else 1).sum
theorem seenSum_push : ∀ (l : List (Nat × Nat)) (seen : Array Nat) (x : Nat × Nat), (l.map (·.1)).Nodup → x ∈ l → x.1 ∉ seen → seenSum l (seen.push x.1) = seenSum l seen + x.2 ∧ unseen l (seen.push x.1) + 1 = unseen l seen
  | [], _, _, _, h, _ => by cases h
  | y :: l, seen, x, hn, hx, hs => by
    rw [List.map_cons, List.nodup_cons] at hn
    have same : ∀ l : List (Nat × Nat), x.1 ∉ l.map (·.1) → seenSum l (seen.push x.1) = seenSum l seen ∧ unseen l (seen.push x.1) = unseen l seen := by
      intro l
      induction l with
      | nil => exact fun _ => ⟨rfl, rfl⟩
      | cons z l ih =>
        intro h
        rw [List.map_cons, List.mem_cons, not_or] at h
        obtain ⟨i1, i2⟩ := ih h.2
        have e : z.1 ∈ seen.push x.1 ↔ z.1 ∈ seen := by
          rw [Array.mem_push]
          exact ⟨fun hh => hh.elim id fun e => absurd e.symm h.1, .inl⟩
        unfold seenSum unseen at *
        simp only [List.map_cons, List.sum_cons, e, i1, i2, and_self]
    rcases List.mem_cons.1 hx with rfl | hx
    · obtain ⟨i1, i2⟩ := same l hn.1
      unfold seenSum unseen at *
      simp only [List.map_cons, List.sum_cons, i1, i2, if_neg hs, if_pos (show x.1 ∈ seen.push x.1 by simp)]
      omega
    · have hne : y.1 ≠ x.1 := fun e => hn.1 (e ▸ List.mem_map.2 ⟨x, hx, rfl⟩)
      obtain ⟨i1, i2⟩ := seenSum_push l seen x hn.2 hx hs
      have e : y.1 ∈ seen.push x.1 ↔ y.1 ∈ seen := by
        rw [Array.mem_push]
        exact ⟨fun hh => hh.elim id fun e => absurd e hne, .inl⟩
      unfold seenSum unseen at *
      simp only [List.map_cons, List.sum_cons, e, i1]
      omega
theorem seenSum_all (l : List (Nat × Nat)) (seen : Array Nat) (h : ∀ x ∈ l, x.1 ∈ seen) : seenSum l seen = (l.map (·.2)).sum := by
  unfold seenSum
  congr 1
  exact List.map_congr_left fun x hx => if_pos (h x hx)
theorem seenSum_none (l : List (Nat × Nat)) : seenSum l #[] = 0 := by
  unfold seenSum
  induction l with
  | nil => rfl
  | cons x l ih => simp_all
theorem seenSum_le (l : List (Nat × Nat)) (seen : Array Nat) : seenSum l seen ≤ (l.map (·.2)).sum := by
  unfold seenSum
  induction l with
  | nil => exact Nat.le_refl _
  | cons x l ih =>
    simp only [List.map_cons, List.sum_cons]
    split <;> omega
end Go.Proofs.YtmchmlkbpocboaaGreatDoor
