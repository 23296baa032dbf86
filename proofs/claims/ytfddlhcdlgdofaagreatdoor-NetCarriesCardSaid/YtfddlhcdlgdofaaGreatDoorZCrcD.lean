/- bytes.Clone; crc.body, One, Peel. -/
import Derived.Test.YtfddlhcdlgdofaaGreatDoorZCrcC
set_option linter.unusedSimpArgs false
set_option linter.unusedVariables false
set_option linter.unnecessarySimpa false
namespace Go.Proofs.YtfddlhcdlgdofaaGreatDoor
open Go.RowKit

def bc (l : List UInt8) : List Value := l.map fun b => Value.int .u8 (b.toNat : Int)
theorem bc_length (l : List UInt8) : (bc l).length = l.length := by simp [bc]
theorem bc_append (a b : List UInt8) : bc (a ++ b) = bc a ++ bc b := by simp [bc]
theorem bc_at {l : List UInt8} {j : Nat} {u : Value} (h : (bc l)[j]? = some u) : ∃ b, l[j]? = some b ∧ u = .int .u8 (b.toNat : Int) := by
  unfold bc at h
  rw [List.getElem?_map] at h
  cases hl : l[j]? with
  | none => rw [hl] at h; cases h
  | some b => rw [hl] at h; exact ⟨b, rfl, (Option.some.inj h).symm⟩
theorem bc_some {l : List UInt8} {j : Nat} {b : UInt8} (h : l[j]? = some b) : (bc l)[j]? = some (.int .u8 (b.toNat : Int)) := by
  unfold bc; rw [List.getElem?_map, h]; rfl
theorem bc_one (l : List UInt8) : ∀ u ∈ bc l, u.oneCell' = true := by
  intro u hu
  obtain ⟨b, _, rfl⟩ := List.mem_map.1 hu
  rfl

/-- Bytes in a block of the call's own, told by its cells. -/
structure OwnC (w : World) (base g cap : Nat) (l : List UInt8) : Prop where
  new : base ≤ g
  lt : g < w.heap.size
  le : l.length ≤ cap
  max : cap ≤ maxLen
  holds : ∀ j b, l[j]? = some b → w.cell? ⟨g, j, none⟩ = some (.int .u8 (b.toNat : Int))
  there : ∀ j, j < cap → (w.cell? ⟨g, j, none⟩).isSome = true ∧ w.frozen? ⟨g, j, none⟩ = false
def OwnBy (w : World) (base : Nat) (v : Value) (l : List UInt8) : Prop :=
  (v = .slice none 0 0 ∧ l = []) ∨ ∃ g cap, v = .slice (some ⟨g, 0, none⟩) l.length cap ∧ OwnC w base g cap l
theorem OwnC.keep {w w' : World} {base g cap : Nat} {l : List UInt8} (h : OwnC w base g cap l) (hs : w.heap.size ≤ w'.heap.size) (hk : w'.heap[g]? = w.heap[g]?) : OwnC w' base g cap l :=
  ⟨h.new, Nat.lt_of_lt_of_le h.lt hs, h.le, h.max, fun j b hj => by rw [World.cell?_of_block (a := ⟨g, j, none⟩) hk]; exact h.holds j b hj, fun j hj => by rw [World.cell?_of_block (a := ⟨g, j, none⟩) hk, World.frozen?_of_block (a := ⟨g, j, none⟩) hk]; exact h.there j hj⟩
theorem OwnBy.below {w w' : World} {base : Nat} {v : Value} {l : List UInt8} (h : OwnBy w base v l) (hb : Below w.heap.size w w') : OwnBy w' base v l := by
  rcases h with h | ⟨g, cap, rfl, h⟩
  · exact .inl h
  · exact .inr ⟨g, cap, rfl, h.keep hb.size (hb.block g h.lt)⟩
theorem info5 : (Tryz.prog.info? 5).map (fun i => (i.zero, i.size, i.bytes)) = some (some (.int .u8 0), 1, 1) := by kernel_rfl

theorem run_append_by (w : World) (base : Nat) (ty tx : TypeId) (v : Value) (l ms : List UInt8) (x : Value) (hown : OwnBy w base v l) (hs : Src Tryz.prog 1 tx x ms.length (bc ms) w) (hlen : l.length + ms.length ≤ 1073741824) (hbase : base ≤ w.heap.size) :
    ∃ v' w', (Builtin.append_ #[54, tx] ty #[v, x]).run Tryz.prog w = .ok v' w' ∧ OwnBy w' base v' (l ++ ms) ∧ w.grownBy w' v.ownBlock := by
  obtain ⟨i0, hi, hz0, hz1, hz2⟩ := info_parts info5
  have hs' : Src Tryz.prog i0.size tx x ms.length (bc ms) w := by rw [hz1]; exact hs
  have grow : ∀ (A : Option Addr) (sCap : Nat), (Builtin.firstCells i0.size l.length (.slice A l.length sCap)).run Tryz.prog w.drew = .ok (bc l).toArray w.drew → sCap < l.length + ms.length →
      ∃ v' w', (Builtin.append_ #[54, tx] ty #[.slice A l.length sCap, x]).run Tryz.prog w = .ok v' w' ∧ OwnBy w' base v' (l ++ ms) ∧ w.grownBy w' (Value.slice A l.length sCap).ownBlock := by
    intro A sCap hold hg
    have hfit : Builtin.nextslicecap (l.length + ms.length) sCap * i0.bytes ≤ 281474976710656 := by
      have := Go.Room.nextslicecap_le' hg
      rw [hz2]; omega
    have hr := run_append_grow_src (P := Tryz.prog) w 54 tx ty 5 i0 _ Tryz.underlying54 hi hz0 A l.length sCap (bc l) hold x ms.length (bc ms) hs' hg (by omega) hfit
    have hge := grownCap_ge w (l.length + ms.length) sCap 5
    have hle := grownCap_le_maxLen w (l.length + ms.length) sCap 5 (by unfold maxLen; omega)
    refine ⟨_, _, hr, .inr ⟨w.heap.size, grownCap w (l.length + ms.length) sCap 5, by simp, ?_⟩, ⟨rfl, rfl, rfl, by simp, fun k hk _ => by rw [Below.heap_alloc _ _ k (by simpa using hk)]; rfl⟩⟩
    have hblk : (w.drew.alloc (.cells ((bc l ++ bc ms).toArray ++ Builtin.zeroCells (Value.cells (.int .u8 0)) (grownCap w (l.length + ms.length) sCap 5 - (l.length + ms.length))) 5)).heap[w.heap.size]? = some (.cells ((bc l ++ bc ms).toArray ++ Builtin.zeroCells (Value.cells (.int .u8 0)) (grownCap w (l.length + ms.length) sCap 5 - (l.length + ms.length))) 5 (0, 0)) := heap_alloc_new w.drew _
    refine ⟨hbase, by simp, by simpa using hge, hle, fun j b hj => ?_, fun j hj => ?_⟩
    · rw [cell_of_row _ _ _ _ _ _ hblk]
      have := bc_some hj
      rw [bc_append] at this
      rw [Array.getElem?_append_left (by simpa using (List.getElem?_eq_some_iff.1 this).1)]
      simpa using this
    · constructor
      · rw [cell_of_row _ _ _ _ _ _ hblk]
        have hsz : j < ((bc l ++ bc ms).toArray ++ Builtin.zeroCells (Value.cells (.int .u8 0)) (grownCap w (l.length + ms.length) sCap 5 - (l.length + ms.length))).size := by
          rw [Array.size_append, size_zeroCells]
          simp [bc_length, Value.cells]
          omega
        rw [Array.getElem?_eq_getElem hsz]; rfl
      · exact free0 hblk j
  rcases hown with ⟨rfl, rfl⟩ | ⟨g, cap, rfl, ho⟩
  · by_cases hz : ms = []
    · subst hz
      exact ⟨.slice none 0 0, w, run_append_nothing w 54 tx ty 5 i0 Tryz.underlying54 hi none 0 0 (Nat.le_refl _) x hs', .inl ⟨rfl, rfl⟩, ⟨rfl, rfl, rfl, Nat.le_refl _, fun _ _ _ => rfl⟩⟩
    · exact grow none 0 (by simp [Builtin.firstCells, bc]) (by simpa using List.length_pos_iff.2 hz)
  · by_cases hroom : l.length + ms.length ≤ cap
    · have hr := run_append_room_src (P := Tryz.prog) w 54 tx ty 5 i0 Tryz.underlying54 hi g 0 l.length cap x ms.length (bc ms) hs' hroom
        (by rw [hz1]; intro j hj; rw [bc_length] at hj; have := (ho.there (l.length + j) (by omega)).1; simpa using this) (by rw [hz1]; intro j hj; rw [bc_length] at hj; have := (ho.there (l.length + j) (by omega)).2; simpa using this)
      rw [hz1] at hr
      have e0 : 0 + l.length * 1 = l.length := by omega
      rw [e0] at hr
      have hkb := World.keptBut_setCells g (may := fun p => p.block = g) (bc ms) l.length w (fun _ _ => rfl)
      refine ⟨_, _, hr, .inr ⟨g, cap, by simp, ?_⟩, ⟨hkb.1, (setCells_tape g (bc ms) l.length w).1, hkb.2.1, Nat.le_of_eq (setCells_tape g (bc ms) l.length w).2.symm, fun k hk hne => hkb.block hk (fun p hp e => hne (by rw [← e, hp]; rfl))⟩⟩
      have hex : ∀ j, j < (bc ms).length → (w.cell? ⟨g, l.length + j, none⟩).isSome = true := fun j hj => (ho.there (l.length + j) (by rw [bc_length] at hj; omega)).1
      refine ⟨ho.new, by rw [(setCells_tape g (bc ms) l.length w).2]; exact ho.lt, by simpa using hroom, ho.max, fun j b hj => ?_, fun j hj => ⟨?_, ?_⟩⟩
      · by_cases hjl : j < l.length
        · rw [World.cell?_setCells_out g (bc ms) l.length w ⟨g, j, none⟩ (fun _ _ => .inl hjl)]
          exact ho.holds j b (by rwa [List.getElem?_append_left hjl] at hj)
        · rw [List.getElem?_append_right (by omega)] at hj
          have h1 := bc_some hj
          have h2 : j - l.length < (bc ms).length := (List.getElem?_eq_some_iff.1 h1).1
          have h3 := World.cell?_setCells_in g (bc ms) l.length w hex (j - l.length) h2
          rw [show l.length + (j - l.length) = j from by omega] at h3
          rw [h3, (List.getElem?_eq_some_iff.1 h1).2]
      · by_cases hin : l.length ≤ j ∧ j < l.length + (bc ms).length
        · have h3 := World.cell?_setCells_in g (bc ms) l.length w hex (j - l.length) (by omega)
          rw [show l.length + (j - l.length) = j from by omega] at h3
          rw [h3]; rfl
        · rw [World.cell?_setCells_out g (bc ms) l.length w ⟨g, j, none⟩ (fun _ _ => by simp only; omega)]
          exact (ho.there j hj).1
      · rw [World.frozen?_setCells]; exact (ho.there j hj).2
    · exact grow (some ⟨g, 0, none⟩) cap (by rw [hz1]; exact run_firstCells_some w.drew 1 l.length ⟨g, 0, none⟩ l.length cap (bc l) (by simp [bc_length]) (fun j u hu => by
        obtain ⟨b, hb, rfl⟩ := bc_at hu
        rw [add0]; exact ho.holds j b hb)) (by omega)

/-- the same, as an arm of a walk -/
theorem wpList_append_by (w : World) {ops : Array Oper} {rest : List Oper} {o : Oper} {a : Act} {Q : Exit → Act → World → Prop} (hgd : o.guard = none) (s x : Operand) (tx : TypeId)
    (ho : o.op = .call { callee := .builtin .append, args := #[s, x], argTypes := #[54, tx] })
    (base : Nat) (l ms : List UInt8) (v y : Value) (hs : a.eval s = v) (hx : a.eval x = y) (hown : OwnBy w base v l) (hsrc : Src Tryz.prog 1 tx y ms.length (bc ms) w) (hlen : l.length + ms.length ≤ 1073741824) (hbase : base ≤ w.heap.size)
    (h : ∀ v' w', OwnBy w' base v' (l ++ ms) → w.grownBy w' v.ownBlock → wpList Tryz.prog ops Q rest (a.put o.dst v') w') : wpList Tryz.prog ops Q (o :: rest) a w :=
  wpList_plain hgd fun K hK => by
    obtain ⟨v', w', hr, h2, h3⟩ := run_append_by w base o.type tx v l ms y hown hsrc hlen hbase
    unfold Oper.wp execOp
    simp only [ho, resolve, invoke, builtin, Sem.run_bind, Sem.run_pure, Result.andThen_ok, List.map_toArray, List.map_cons, List.map_nil, hs, hx, hr]
    exact hK _ _ (h v' w' h2 h3)

theorem OwnBy.bis {w : World} {base : Nat} {v : Value} {l : List UInt8} (h : OwnBy w base v l) : BIs w v l := by
  rcases h with ⟨rfl, rfl⟩ | ⟨g, cap, rfl, h⟩
  · exact ⟨none, 0, rfl, Nat.le_refl _, by unfold maxLen; omega, fun i b hi => by simp at hi⟩
  · exact ⟨some ⟨g, 0, none⟩, cap, rfl, h.le, h.max, fun i b hi => ⟨_, rfl, h.lt, by rw [add0]; exact h.holds i b hi⟩⟩
/-- Bytes at an address. -/
def At (w : World) (a : Addr) (l : List UInt8) : Prop := a.block < w.heap.size ∧ ∀ i b, l[i]? = some b → w.cell? (a.add i) = some (.int .u8 (b.toNat : Int))
theorem BIs.at {w : World} {v : Value} {l : List UInt8} (h : BIs w v l) (hne : l ≠ []) : ∃ a cap, v = .slice (some a) l.length cap ∧ l.length ≤ cap ∧ cap ≤ maxLen ∧ At w a l := by
  obtain ⟨A, cap, rfl, h1, h2, h3⟩ := h
  have h0 : 0 < l.length := List.length_pos_iff.2 hne
  obtain ⟨a, rfl, hab, _⟩ := h3 0 l[0] (List.getElem?_eq_getElem h0)
  exact ⟨a, cap, rfl, h1, h2, hab, fun i b hi => by obtain ⟨a', e, _, hc⟩ := h3 i b hi; cases e; exact hc⟩
theorem At.bis {w : World} {a : Addr} {l : List UInt8} {n cap : Nat} (h : At w a l) (hn : l.length = n) (hc : n ≤ cap) (hm : cap ≤ maxLen) : BIs w (.slice (some a) n cap) l := by
  subst hn
  exact ⟨some a, cap, rfl, hc, hm, fun i b hi => ⟨a, rfl, h.1, h.2 i b hi⟩⟩
theorem At.take {w : World} {a : Addr} {l : List UInt8} (h : At w a l) (k : Nat) : At w a (l.take k) := ⟨h.1, fun i b hi => by
  rw [List.getElem?_take] at hi
  split at hi
  · exact h.2 i b hi
  · cases hi⟩
theorem At.drop {w : World} {a : Addr} {l : List UInt8} (h : At w a l) (k : Nat) (hk : 0 < k) : At w ⟨a.block, a.off + k, none⟩ (l.drop k) := ⟨h.1, fun i b hi => by
  rw [List.getElem?_drop] at hi
  have := h.2 _ b hi
  have e : a.add (k + i) = (⟨a.block, a.off + k, none⟩ : Addr).add i := by
    unfold Addr.add
    rw [if_neg (by omega)]
    split
    · subst i; rfl
    · show (⟨a.block, a.off + (k + i), none⟩ : Addr) = ⟨a.block, a.off + k + i, none⟩
      rw [Nat.add_assoc]
  rw [e] at this
  exact this⟩
theorem At.below {w w' : World} {a : Addr} {l : List UInt8} (h : At w a l) (hb : Below w.heap.size w w') : At w' a l :=
  ⟨Nat.lt_of_lt_of_le h.1 hb.size, fun i b hi => (hb.cell (by rw [add_block]; exact h.1)).trans (h.2 i b hi)⟩
theorem BIs.src {w : World} {v : Value} {l : List UInt8} (h : BIs w v l) : Src Tryz.prog 1 54 v l.length (bc l) w := by
  obtain ⟨A, cap, rfl, h1, h2, h3⟩ := h
  cases A with
  | none =>
    have : l = [] := by
      cases l with
      | nil => rfl
      | cons x r => obtain ⟨a, e, _⟩ := h3 0 x rfl; cases e
    subst this
    exact Src.ofNil w Tryz.underlying54 cap
  | some a =>
    exact Src.ofSlice w Tryz.underlying54 a l.length cap (bc l) (by simp [bc_length]) (fun j u hu => by
      obtain ⟨b, hb, rfl⟩ := bc_at hu
      obtain ⟨a', e, _, hc⟩ := h3 j b hb
      cases e; exact hc) (bc_one l)

set_option maxRecDepth 100000 in
set_option maxHeartbeats 1000000 in
theorem clone_any {w : World} {v : Value} {l : List UInt8} (h : BIs w v l) (hl : l.length ≤ 1073741824) :
    Calls Tryz.prog 65 #[v] w fun e w' => ∃ v', e = .returned v' ∧ OwnBy w' w.heap.size v' l ∧ Below w.heap.size w w' := by
  have hA : Below w.heap.size w (w.alloc (.cells #[] 5)) := (Below.refl _ _).alloc (Nat.le_refl _) _
  have own0 : Hid (OwnBy (w.alloc (.cells #[] 5)) w.heap.size (.slice (some ⟨w.heap.size, 0, none⟩) 0 0) []) :=
    .inr ⟨w.heap.size, 0, rfl, ⟨Nat.le_refl _, by simp, Nat.le_refl _, by unfold maxLen; omega, fun j b hj => by simp at hj, fun j hj => by omega⟩⟩
  have src := Lib.hid (h.below hA).src
  obtain ⟨A, cap, rfl, _, _, h3⟩ := h
  cases A with
  | none =>
    have : l = [] := by
      cases l with
      | nil => rfl
      | cons x r => obtain ⟨a, e, _⟩ := h3 0 x rfl; cases e
    subst this
    have hnil : ∀ (w : World), (binOp .eql 54 (.slice none 0 cap) (.slice none 0 0)).run Tryz.prog w = .ok (.bool true) w := fun w => by simp [binOp, run_equal_slice_nil w 54 5 _ _ _ Tryz.underlying54]
    clear h3 hA
    go_enter Tryz.func65, Tryz.ntmps65
    go_wp2
    go_ret
    exact ⟨_, rfl, .inl ⟨rfl, rfl⟩, Below.refl _ _⟩
  | some a =>
    have hnil : ∀ (w : World), (binOp .eql 54 (.slice (some a) l.length cap) (.slice none 0 0)).run Tryz.prog w = .ok (.bool false) w := fun w => by simp [binOp, run_equal_slice_nil w 54 5 _ _ _ Tryz.underlying54]
    have HA := Lib.hid hA
    clear hA h3
    go_enter Tryz.func65, Tryz.ntmps65
    go_wp2_with (at_builtin; refine wpList_append_by _ rfl _ _ 54 rfl w.heap.size [] l _ _ rfl rfl own0.out src.out ?_ ?_ ?_)
    · simpa using hl
    · simp
    intro v' w' hown hg
    have HO := Lib.hid hown
    have hrow : ∀ k, (Value.slice (some ⟨w.heap.size, 0, none⟩) 0 0).ownBlock = some k → w.heap.size ≤ k := by
      intro k hk
      have : w.heap.size = k := by simpa [Value.ownBlock] using hk
      omega
    have HB := Lib.hid (HA.out.grown hg (by simp) hrow)
    clear hown hg
    go_wp2
    go_ret
    exact ⟨_, rfl, HO.out, HB.out⟩

set_option maxRecDepth 100000 in
set_option maxHeartbeats 1000000 in
theorem body_any {w : World} {a : Addr} {n cap m : Nat} {l : List UInt8} (h : At w a l) (hn : l.length = n) (hc : n ≤ cap) (hm : cap ≤ maxLen) (hk : m + 7 ≤ n) (hl : m ≤ 16384) :
    Calls Tryz.prog 101 #[.slice (some a) n cap, .int .i64 ((m + 7 : Nat) : Int)] w fun e w' => ∃ v', e = .returned v' ∧ OwnBy w' w.heap.size v' ((l.drop 3).take m) ∧ Below w.heap.size w w' := by
  have hb : BIs w (.slice (some ⟨a.block, a.off + 3, none⟩) m (cap - 3)) ((l.drop 3).take m) := ((h.drop 3 (by omega)).take m).bis (by rw [List.length_take, List.length_drop]; omega) (by omega) (by omega)
  have HC := Lib.hid (clone_any hb (by rw [List.length_take]; omega))
  unfold maxLen at hm
  have q1 : ((m + 7 : Nat) : Int) - 4 = (m : Int) + 3 := by omega
  have q2 : ((m + 7 : Nat) : Int) ≤ 16391 := by omega
  have q3 : (m : Int) + 3 ≤ (cap : Int) := by omega
  have q4 : ¬ cap = 3 := by omega
  clear h hb hl
  generalize ((m + 7 : Nat) : Int) = M at *
  have q5 : M = (m : Int) + 7 := by omega
  subst q5
  go_enter Tryz.func101, Tryz.ntmps101
  go_wp2_with fail
  refine (HC.out).mono ?_
  rintro e w1 ⟨v, rfl, hO, hb⟩
  have HO := Lib.hid hO
  have HB := Lib.hid hb
  clear hO hb
  go_wp2
  go_ret
  exact ⟨_, rfl, HO.out, HB.out⟩

def bodyP (l : List UInt8) : List UInt8 := (l.drop 3).take (szP l)
theorem body_at {w : World} {v : Value} {l : List UInt8} (h : BIs w v l) (hf : firstP l ≠ 0) :
    Calls Tryz.prog 101 #[v, .int .i64 (firstP l : Nat)] w fun e w' => ∃ v', e = .returned v' ∧ OwnBy w' w.heap.size v' (bodyP l) ∧ Below w.heap.size w w' := by
  obtain ⟨m, hm, hlen, h16, hfm, _, hle⟩ := firstP_pos hf
  obtain ⟨a, cap, rfl, h1, h2, h3⟩ := h.at (by intro e; rw [e] at hle; simp at hle)
  rw [hfm]
  unfold bodyP
  rw [← hlen]
  exact body_any h3 rfl h1 h2 hle h16

theorem OwnBy.lower {w : World} {b b' : Nat} {v : Value} {l : List UInt8} (h : OwnBy w b v l) (hb : b' ≤ b) : OwnBy w b' v l := by
  rcases h with h | ⟨g, c, rfl, h⟩
  · exact .inl h
  · exact .inr ⟨g, c, rfl, ⟨Nat.le_trans hb h.new, h.lt, h.le, h.max, h.holds, h.there⟩⟩
theorem bis_empty {w : World} (A : Option Addr) (c : Nat) (hc : c ≤ maxLen) : BIs w (.slice A 0 c) [] := ⟨A, c, rfl, Nat.zero_le _, hc, fun i b hi => by simp at hi⟩
theorem At.from {w : World} {a : Addr} {l : List UInt8} (h : At w a l) (lo m cap : Nat) (hm : lo + m ≤ l.length) (hc : l.length ≤ cap) (hx : cap ≤ maxLen) : BIs w (.slice (some (a.add lo)) m (cap - lo)) ((l.drop lo).take m) := by
  have hl : ((l.drop lo).take m).length = m := by rw [List.length_take, List.length_drop]; omega
  refine ⟨some (a.add lo), cap - lo, by rw [hl], by omega, by omega, fun i b hi => ⟨_, rfl, by rw [add_block]; exact h.1, ?_⟩⟩
  rw [List.getElem?_take] at hi
  split at hi
  · rw [List.getElem?_drop] at hi
    rw [Go.Deep.add_add]
    exact h.2 _ b hi
  · cases hi
end Go.Proofs.YtfddlhcdlgdofaaGreatDoor
