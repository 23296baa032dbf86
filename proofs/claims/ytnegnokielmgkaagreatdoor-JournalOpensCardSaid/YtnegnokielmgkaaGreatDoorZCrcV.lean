/- append onto a row of one's own whose elements are slices; where the new row lies. crc.All. A journal in plain words: the frames with which bytes begin, a tape's segments in order, what each call answers and leaves. Nothing here speaks of the program. -/
import Derived.Test.YtnegnokielmgkaaGreatDoorZCrcD
import Derived.Test.YtnegnokielmgkaaGreatDoorZCrcF
import Derived.Test.YtnegnokielmgkaaGreatDoorZKepA
set_option linter.unusedSimpArgs false
set_option linter.unusedVariables false
set_option linter.unnecessarySimpa false
namespace Go.Proofs.YtnegnokielmgkaaGreatDoor
open Go.RowKit

/-- Values of one cell in a block of one's own. -/
structure OwnV (w : World) (base g cap : Nat) (l : List Value) : Prop where
  new : base ≤ g
  lt : g < w.heap.size
  le : l.length ≤ cap
  max : cap ≤ maxLen
  holds : ∀ (j : Nat) (b : Value), l[j]? = some b → w.cell? ⟨g, j, none⟩ = some b
  there : ∀ j, j < cap → (w.cell? ⟨g, j, none⟩).isSome = true ∧ w.frozen? ⟨g, j, none⟩ = false
def OwnS (w : World) (base : Nat) (v : Value) (l : List Value) : Prop :=
  (v = .slice none 0 0 ∧ l = []) ∨ ∃ g cap, v = .slice (some ⟨g, 0, none⟩) l.length cap ∧ OwnV w base g cap l
theorem OwnV.keep {w w' : World} {base g cap : Nat} {l : List Value} (h : OwnV w base g cap l) (hs : w.heap.size ≤ w'.heap.size) (hk : w'.heap[g]? = w.heap[g]?) : OwnV w' base g cap l :=
  ⟨h.new, Nat.lt_of_lt_of_le h.lt hs, h.le, h.max, fun j b hj => by rw [World.cell?_of_block (a := ⟨g, j, none⟩) hk]; exact h.holds j b hj, fun j hj => by rw [World.cell?_of_block (a := ⟨g, j, none⟩) hk, World.frozen?_of_block (a := ⟨g, j, none⟩) hk]; exact h.there j hj⟩
theorem OwnS.below {w w' : World} {base : Nat} {v : Value} {l : List Value} (h : OwnS w base v l) (hb : Below w.heap.size w w') : OwnS w' base v l := by
  rcases h with h | ⟨g, cap, rfl, h⟩
  · exact .inl h
  · exact .inr ⟨g, cap, rfl, h.keep hb.size (hb.block g h.lt)⟩
theorem info22v : (Tryz.prog.info? 32).map (fun i => (i.zero, i.size, i.bytes)) = some (some (.slice none 0 0), 1, 24) := by kernel_rfl

theorem run_append_vals (w : World) (base : Nat) (ty tx : TypeId) (v : Value) (l ms : List Value) (x : Value) (hown : OwnS w base v l) (hs : Src Tryz.prog 1 tx x ms.length ms w) (hlen : l.length + ms.length ≤ 1073741824) (hbase : base ≤ w.heap.size) :
    ∃ v' w', (Builtin.append_ #[42, tx] ty #[v, x]).run Tryz.prog w = .ok v' w' ∧ OwnS w' base v' (l ++ ms) ∧ w.grownBy w' v.ownBlock ∧ (v'.ownBlock = v.ownBlock ∨ v'.ownBlock = some w.heap.size) := by
  obtain ⟨i0, hi, hz0, hz1, hz2⟩ := info_parts info22v
  have hs' : Src Tryz.prog i0.size tx x ms.length ms w := by rw [hz1]; exact hs
  have grow : ∀ (A : Option Addr) (sCap : Nat), (Builtin.firstCells i0.size l.length (.slice A l.length sCap)).run Tryz.prog w.drew = .ok l.toArray w.drew → sCap < l.length + ms.length →
      ∃ v' w', (Builtin.append_ #[42, tx] ty #[.slice A l.length sCap, x]).run Tryz.prog w = .ok v' w' ∧ OwnS w' base v' (l ++ ms) ∧ w.grownBy w' (Value.slice A l.length sCap).ownBlock ∧ (v'.ownBlock = (Value.slice A l.length sCap).ownBlock ∨ v'.ownBlock = some w.heap.size) := by
    intro A sCap hold hg
    have hfit : Builtin.nextslicecap (l.length + ms.length) sCap * i0.bytes ≤ 281474976710656 := by
      have := Go.Room.nextslicecap_le' hg
      rw [hz2]; omega
    have hr := run_append_grow_src (P := Tryz.prog) w 42 tx ty 32 i0 _ Tryz.underlying42 hi hz0 A l.length sCap l hold x ms.length ms hs' hg (by omega) hfit
    have hge := grownCap_ge w (l.length + ms.length) sCap 32
    have hle := grownCap_le_maxLen w (l.length + ms.length) sCap 32 (by unfold maxLen; omega)
    refine ⟨_, _, hr, .inr ⟨w.heap.size, grownCap w (l.length + ms.length) sCap 32, by simp, ?_⟩, ⟨rfl, rfl, rfl, by simp, fun k hk _ => by rw [Below.heap_alloc _ _ k (by simpa using hk)]; rfl⟩, .inr rfl⟩
    have hblk : (w.drew.alloc (.cells ((l ++ ms).toArray ++ Builtin.zeroCells (Value.cells (.slice none 0 0)) (grownCap w (l.length + ms.length) sCap 32 - (l.length + ms.length))) 32)).heap[w.heap.size]? = some (.cells ((l ++ ms).toArray ++ Builtin.zeroCells (Value.cells (.slice none 0 0)) (grownCap w (l.length + ms.length) sCap 32 - (l.length + ms.length))) 32 (0, 0)) := heap_alloc_new w.drew _
    refine ⟨hbase, by simp, by simpa using hge, hle, fun j b hj => ?_, fun j hj => ?_⟩
    · rw [cell_of_row _ _ _ _ _ _ hblk]
      rw [Array.getElem?_append_left (by simpa using (List.getElem?_eq_some_iff.1 hj).1)]
      simpa using hj
    · constructor
      · rw [cell_of_row _ _ _ _ _ _ hblk]
        have hsz : j < ((l ++ ms).toArray ++ Builtin.zeroCells (Value.cells (.slice none 0 0)) (grownCap w (l.length + ms.length) sCap 32 - (l.length + ms.length))).size := by
          rw [Array.size_append, size_zeroCells]
          simp [Value.cells]
          omega
        rw [Array.getElem?_eq_getElem hsz]; rfl
      · exact free0 hblk j
  rcases hown with ⟨rfl, rfl⟩ | ⟨g, cap, rfl, ho⟩
  · by_cases hz : ms = []
    · subst hz
      exact ⟨.slice none 0 0, w, run_append_nothing w 42 tx ty 32 i0 Tryz.underlying42 hi none 0 0 (Nat.le_refl _) x hs', .inl ⟨rfl, rfl⟩, ⟨rfl, rfl, rfl, Nat.le_refl _, fun _ _ _ => rfl⟩, .inl rfl⟩
    · exact grow none 0 (by simp [Builtin.firstCells]) (by simpa using List.length_pos_iff.2 hz)
  · by_cases hroom : l.length + ms.length ≤ cap
    · have hr := run_append_room_src (P := Tryz.prog) w 42 tx ty 32 i0 Tryz.underlying42 hi g 0 l.length cap x ms.length ms hs' hroom
        (by rw [hz1]; intro j hj; have := (ho.there (l.length + j) (by omega)).1; simpa using this) (by rw [hz1]; intro j hj; have := (ho.there (l.length + j) (by omega)).2; simpa using this)
      rw [hz1] at hr
      have e0 : 0 + l.length * 1 = l.length := by omega
      rw [e0] at hr
      have hkb := World.keptBut_setCells g (may := fun p => p.block = g) ms l.length w (fun _ _ => rfl)
      refine ⟨_, _, hr, .inr ⟨g, cap, by simp, ?_⟩, ⟨hkb.1, (setCells_tape g ms l.length w).1, hkb.2.1, Nat.le_of_eq (setCells_tape g ms l.length w).2.symm, fun k hk hne => hkb.block hk (fun p hp e => hne (by rw [← e, hp]; rfl))⟩, .inl rfl⟩
      have hex : ∀ j, j < ms.length → (w.cell? ⟨g, l.length + j, none⟩).isSome = true := fun j hj => (ho.there (l.length + j) (by omega)).1
      refine ⟨ho.new, by rw [(setCells_tape g ms l.length w).2]; exact ho.lt, by simpa using hroom, ho.max, fun j b hj => ?_, fun j hj => ⟨?_, ?_⟩⟩
      · by_cases hjl : j < l.length
        · rw [World.cell?_setCells_out g ms l.length w ⟨g, j, none⟩ (fun _ _ => .inl hjl)]
          exact ho.holds j b (by rwa [List.getElem?_append_left hjl] at hj)
        · rw [List.getElem?_append_right (by omega)] at hj
          have h2 : j - l.length < ms.length := (List.getElem?_eq_some_iff.1 hj).1
          have h3 := World.cell?_setCells_in g ms l.length w hex (j - l.length) h2
          rw [show l.length + (j - l.length) = j from by omega] at h3
          rw [h3, (List.getElem?_eq_some_iff.1 hj).2]
      · by_cases hin : l.length ≤ j ∧ j < l.length + ms.length
        · have h3 := World.cell?_setCells_in g ms l.length w hex (j - l.length) (by omega)
          rw [show l.length + (j - l.length) = j from by omega] at h3
          rw [h3]; rfl
        · rw [World.cell?_setCells_out g ms l.length w ⟨g, j, none⟩ (fun _ _ => by simp only; omega)]
          exact (ho.there j hj).1
      · rw [World.frozen?_setCells]; exact (ho.there j hj).2
    · exact grow (some ⟨g, 0, none⟩) cap (by rw [hz1]; exact run_firstCells_some w.drew 1 l.length ⟨g, 0, none⟩ l.length cap l (by simp) (fun j u hu => by
        rw [add0]; exact ho.holds j _ hu)) (by omega)

/-- the same, as an arm of a walk -/
theorem wpList_append_vals (w : World) {ops : Array Oper} {rest : List Oper} {o : Oper} {a : Act} {Q : Exit → Act → World → Prop} (hgd : o.guard = none) (s x : Operand) (tx : TypeId)
    (ho : o.op = .call { callee := .builtin .append, args := #[s, x], argTypes := #[42, tx] })
    (base : Nat) (l ms : List Value) (v y : Value) (hs : a.eval s = v) (hx : a.eval x = y) (hown : OwnS w base v l) (hsrc : Src Tryz.prog 1 tx y ms.length ms w) (hlen : l.length + ms.length ≤ 1073741824) (hbase : base ≤ w.heap.size)
    (h : ∀ v' w', OwnS w' base v' (l ++ ms) → w.grownBy w' v.ownBlock → (v'.ownBlock = v.ownBlock ∨ v'.ownBlock = some w.heap.size) → wpList Tryz.prog ops Q rest (a.put o.dst v') w') : wpList Tryz.prog ops Q (o :: rest) a w :=
  wpList_plain hgd fun K hK => by
    obtain ⟨v', w', hr, h2, h3, h4⟩ := run_append_vals w base o.type tx v l ms y hown hsrc hlen hbase
    unfold Oper.wp execOp
    simp only [ho, resolve, invoke, builtin, Sem.run_bind, Sem.run_pure, Result.andThen_ok, List.map_toArray, List.map_cons, List.map_nil, hs, hx, hr]
    exact hK _ _ (h v' w' h2 h3 h4)
end Go.Proofs.YtnegnokielmgkaaGreatDoor

namespace Go.Proofs.YtnegnokielmgkaaGreatDoor
open Go.RowKit

def frs (ls : List (List UInt8)) : List UInt8 := ls.flatMap frameB
def endP (ls : List (List UInt8)) : Nat := (frs ls).length
theorem frs_snoc (ls : List (List UInt8)) (m : List UInt8) : frs (ls ++ [m]) = frs ls ++ frameB m := by simp [frs]
theorem endP_snoc (ls : List (List UInt8)) (m : List UInt8) : endP (ls ++ [m]) = endP ls + (m.length + 7) := by unfold endP; rw [frs_snoc, List.length_append, frameB_len]
/-- ls are bodies of frames with which l begins. -/
structure Begins (l : List UInt8) (ls : List (List UInt8)) : Prop where
  eq : l = frs ls ++ l.drop (endP ls)
  le : ∀ m ∈ ls, m.length ≤ 16384
theorem Begins.nil (l : List UInt8) : Begins l [] := ⟨by simp [frs, endP], fun m hm => by cases hm⟩
theorem Begins.end_le {l : List UInt8} {ls : List (List UInt8)} (h : Begins l ls) : endP ls ≤ l.length := by
  have := congrArg List.length h.eq
  rw [List.length_append, List.length_drop] at this
  unfold endP at *
  omega
theorem Begins.snoc {l : List UInt8} {ls : List (List UInt8)} (h : Begins l ls) (hf : firstP (l.drop (endP ls)) ≠ 0) :
    Begins l (ls ++ [bodyP (l.drop (endP ls))]) ∧ firstP (l.drop (endP ls)) = (bodyP (l.drop (endP ls))).length + 7 ∧ (bodyP (l.drop (endP ls))).length ≤ 16384 := by
  obtain ⟨m, hm, hml, h16, hfm, he, hle⟩ := firstP_pos hf
  have hb : bodyP (l.drop (endP ls)) = m := hm.symm
  rw [hb]
  refine ⟨⟨?_, fun k hk => ?_⟩, hfm, h16⟩
  · rw [endP_snoc, frs_snoc, List.append_assoc]
    rw [List.drop_drop] at he
    rw [← he]
    exact h.eq
  · rcases List.mem_append.1 hk with hk | hk
    · exact h.le k hk
    · rw [List.mem_singleton.1 hk]; exact h16
theorem one_new (W : World) (n : Nat) (hn : W.heap.size = n) (t : TypeId) (c0 : Value) : ∀ (j : Nat) (u : Value), [c0][j]? = some u → (W.alloc (.cells #[c0] t)).cell? ((⟨n, 0, none⟩ : Addr).add j) = some u := by
  intro j u h
  subst hn
  rw [add0, cell_of_row _ _ _ _ _ _ (heap_alloc_new W _)]
  simpa using h
/-- Values that read as bodies, none of them in the row's own block. -/
def Bodies (w : World) (v : Value) (xs : List Value) (ls : List (List UInt8)) : Prop :=
  xs.length = ls.length ∧ ∀ (i : Nat) (x : Value) (m : List UInt8), xs[i]? = some x → ls[i]? = some m → BIs w x m ∧ ∀ a n c, x = .slice (some a) n c → a.block < w.heap.size ∧ v.ownBlock ≠ some a.block
theorem Bodies.below {w w' : World} {v : Value} {xs : List Value} {ls : List (List UInt8)} (h : Bodies w v xs ls) (hb : Below w.heap.size w w') : Bodies w' v xs ls :=
  ⟨h.1, fun i x m hx hm => ⟨(h.2 i x m hx hm).1.below hb, fun a n c e => ⟨Nat.lt_of_lt_of_le ((h.2 i x m hx hm).2 a n c e).1 hb.size, ((h.2 i x m hx hm).2 a n c e).2⟩⟩⟩
theorem Bodies.grown {w w' : World} {v v' : Value} {xs : List Value} {ls : List (List UInt8)} (h : Bodies w v xs ls) (hg : w.grownBy w' v.ownBlock) (hv : v'.ownBlock = v.ownBlock ∨ v'.ownBlock = some w.heap.size) : Bodies w' v' xs ls := by
  refine ⟨h.1, fun i x m hx hm => ?_⟩
  obtain ⟨⟨A, cap, rfl, k1, k2, k3⟩, h2⟩ := h.2 i x m hx hm
  obtain ⟨g1, g2, g3, g4, g5⟩ := hg
  refine ⟨⟨A, cap, rfl, k1, k2, fun j b hj => ?_⟩, fun a n c e => ?_⟩
  · obtain ⟨a, rfl, hab, hc⟩ := k3 j b hj
    obtain ⟨_, hne⟩ := h2 a _ _ rfl
    exact ⟨a, rfl, Nat.lt_of_lt_of_le hab g4, (World.cell?_of_block (a := a.add j) (by rw [add_block]; exact g5 a.block hab (Ne.symm hne))).trans hc⟩
  · obtain ⟨hab, hne⟩ := h2 a n c e
    refine ⟨Nat.lt_of_lt_of_le hab g4, ?_⟩
    rcases hv with hv | hv
    · rw [hv]; exact hne
    · rw [hv]; intro e; injection e with e; omega
theorem Bodies.snoc {w : World} {v : Value} {xs : List Value} {ls : List (List UInt8)} {x : Value} {m : List UInt8} (h : Bodies w v xs ls) (hx : BIs w x m) (hx2 : ∀ a n c, x = .slice (some a) n c → a.block < w.heap.size ∧ v.ownBlock ≠ some a.block) : Bodies w v (xs ++ [x]) (ls ++ [m]) := by
  refine ⟨by simp [h.1], fun i y k hy hk => ?_⟩
  by_cases hi : i < xs.length
  · rw [List.getElem?_append_left hi] at hy
    rw [List.getElem?_append_left (by rw [← h.1]; exact hi)] at hk
    exact h.2 i y k hy hk
  · rw [List.getElem?_append_right (by omega)] at hy
    rw [List.getElem?_append_right (by rw [← h.1]; omega), ← h.1] at hk
    have h0 : i - xs.length = 0 := by
      rcases Nat.eq_zero_or_pos (i - xs.length) with h | h
      · exact h
      · rw [List.getElem?_eq_none (by simp; omega)] at hy; cases hy
    rw [h0] at hy hk
    obtain rfl : x = y := by simpa using hy
    obtain rfl : m = k := by simpa using hk
    exact ⟨hx, hx2⟩
theorem OwnS.lt {w : World} {base : Nat} {v : Value} {l : List Value} (h : OwnS w base v l) : ∀ k, v.ownBlock = some k → base ≤ k ∧ k < w.heap.size := by
  intro k hk
  rcases h with ⟨rfl, _⟩ | ⟨g, cap, rfl, h⟩
  · simp [Value.ownBlock] at hk
  · have : g = k := by simpa [Value.ownBlock] using hk
    subst this
    exact ⟨h.new, h.lt⟩

def NewV (base : Nat) (xs : List Value) : Prop := ∀ x ∈ xs, ∀ a n c, x = .slice (some a) n c → base ≤ a.block
theorem NewV.snoc {base : Nat} {xs : List Value} {x : Value} (h : NewV base xs) (hx : ∀ a n c, x = .slice (some a) n c → base ≤ a.block) : NewV base (xs ++ [x]) := fun y hy => by
  rcases List.mem_append.1 hy with hy | hy
  · exact h y hy
  · rw [List.mem_singleton.1 hy]; exact hx
set_option maxRecDepth 100000 in
set_option maxHeartbeats 4000000 in
/-- Values whose blocks are new. -/
theorem all_new {w : World} {v : Value} {l : List UInt8} (hM : Mov w) (h : BIs w v l) (hl : l.length ≤ 1000000) :
    Calls Tryz.prog 107 #[v] w fun e w' => ∃ x xs ls, e = .returned (.tuple #[x, .int .i64 (endP ls : Nat)]) ∧ OwnS w' w.heap.size x xs ∧ Bodies w' x xs ls ∧ NewV w.heap.size xs ∧ Begins l ls ∧ firstP (l.drop (endP ls)) = 0 ∧ Below w.heap.size w w' := by
  have HM := Lib.hid hM
  have HB := Lib.hid h
  have HF := Lib.hid (first_any hM h)
  obtain ⟨A, cap, rfl, hc, hm, h3⟩ := h
  unfold maxLen at hm
  have hl' : (l.length : Int) ≤ 1000000 := by omega
  clear h3 hM
  go_enter Tryz.func107, Tryz.ntmps107
  go_wp2_with fail
  refine (HF.out).mono ?_
  rintro e w1 ⟨rfl, hb1⟩
  have HB1 := Lib.hid hb1
  clear hb1
  go_wp2_with fail
  go_loopw [4, 5, 6] (fun x at' n wr => ∃ xs ls, at' = .int .i64 (endP ls : Nat) ∧ n = .int .i64 (firstP (l.drop (endP ls)) : Nat) ∧ OwnS wr w.heap.size x xs ∧ Bodies wr x xs ls ∧ NewV w.heap.size xs ∧ Begins l ls ∧ Below w.heap.size w wr) (fun _ at' _ _ => l.length - (intOf at').toNat)
  case atStart => exact ⟨[], [], rfl, rfl, Or.inl ⟨rfl, rfl⟩, ⟨rfl, fun i x m hx => by simp at hx⟩, (fun x hx => by cases hx), Begins.nil l, HB1.out⟩
  case round =>
    obtain ⟨xs, ls, rfl, rfl, hown, hbo, hnv, hbe, hb⟩ := hrel
    have HNV := Lib.hid hnv
    clear hnv
    by_cases hf : firstP (l.drop (endP ls)) = 0
    · have HOW := Lib.hid hown
      have HBO := Lib.hid hbo
      have HBE := Lib.hid hbe
      have HBb := Lib.hid hb
      have HF0 := Lib.hid hf
      clear hown hbo hbe hb
      rw [hf]
      clear hf
      go_wp2_with fail
      go_ret2
      exact ⟨_, xs, ls, rfl, HOW.out, HBO.out, HNV.out, HBE.out, HF0.out, HBb.out⟩
    · obtain ⟨hbe2, hfn, h16⟩ := hbe.snoc hf
      have hE2 := hbe2.end_le
      rw [endP_snoc] at hE2
      obtain ⟨a, rfl, hat⟩ : ∃ a, A = some a ∧ At w a l := by
        obtain ⟨a', c', e, _, _, hat⟩ := HB.out.at (by intro e; rw [e] at hE2; simp at hE2)
        injection e with e _ _
        exact ⟨a', e, hat⟩
      have hbv : BIs wr (.slice (some (a.add (endP ls))) (l.length - endP ls) (cap - endP ls)) (l.drop (endP ls)) := by
        have := hat.from (endP ls) (l.length - endP ls) cap (by omega) hc (by unfold maxLen; omega)
        rw [List.take_of_length_le (by rw [List.length_drop]; omega)] at this
        exact this.below hb
      have HBODY := Lib.hid (body_at hbv hf)
      have HEND := Lib.hid (endP_snoc ls (bodyP (l.drop (endP ls))))
      have HBE2 := Lib.hid hbe2
      have HAT := Lib.hid hat
      have HOW := Lib.hid hown
      have HBO := Lib.hid hbo
      have HBb := Lib.hid hb
      have hls : ls.length ≤ 1000000 := by
        have : ∀ ls : List (List UInt8), ls.length ≤ endP ls := by
          intro ls
          induction ls with
          | nil => simp [endP, frs]
          | cons m r ih =>
            have : endP (m :: r) = (m.length + 7) + endP r := by unfold endP frs; rw [List.flatMap_cons, List.length_append, frameB_len]
            rw [this, List.length_cons]; omega
        have := this ls
        omega
      rw [hfn]
      rw [hfn] at HBODY
      clear hbe2 hat hbv hown hbo hbe hb hf hfn
      generalize hEE : endP ls = E at *
      have HEE := Lib.hid hEE
      generalize hBB : bodyP (l.drop E) = B at *
      have q1 : (E : Int) ≤ (cap : Int) := by omega
      have q2 : E ≤ cap := by omega
      have q3 : ¬ cap = E := by omega
      have q4 : (0 : Int) < ((B.length + 7 : Nat) : Int) := by omega
      have q5 : ((B.length + 7 : Nat) : Int) ≤ 16391 := by omega
      have HBl : Hid (B.length ≤ 16384) := h16
      clear hEE hBB h16
      generalize hNN : B.length + 7 = N at *
      have HNN := Lib.hid hNN
      clear hNN
      go_wp2_with fail
      refine (HBODY.out).mono ?_
      rintro e w2 ⟨bv, rfl, hO, hb2⟩
      have HB2 := Lib.hid (HBb.out.trans (hb2.mono HBb.out.size))
      have HO2 := Lib.hid (HOW.out.below hb2)
      have key : ∀ row, OwnS wr w.heap.size row xs → ∀ a n c, bv = .slice (some a) n c → a.block < w2.heap.size ∧ row.ownBlock ≠ some a.block := by
        intro row hrow a n c e
        rcases hO with ⟨h, _⟩ | ⟨g, c', h, hC⟩
        · rw [h] at e; cases e
        · rw [h] at e
          injection e with e _ _
          injection e with e
          subst e
          refine ⟨hC.lt, fun hk => ?_⟩
          have h1 : g < wr.heap.size := (hrow.lt _ hk).2
          have h2 : wr.heap.size ≤ g := hC.new
          omega
      have HBO2 := Lib.hid ((HBO.out.below hb2).snoc hO.bis (key _ HOW.out))
      have HNV2 : Hid (NewV w.heap.size (xs ++ [bv])) := HNV.out.snoc (fun a n c e => by
        have hsz := HBb.out.size
        rcases hO with ⟨h, _⟩ | ⟨g, c', h, hC⟩
        · rw [h] at e; cases e
        · rw [h] at e
          injection e with e _ _
          injection e with e
          subst e
          exact Nat.le_trans hsz hC.new)
      have hsz2 : w.heap.size ≤ w2.heap.size := HB2.out.size
      obtain ⟨A9, c9, rfl, _, _, h39⟩ := hO.bis
      clear hO hb2 h39 key
      have hA := Below.new (w := w2) (.cells #[.slice A9 B.length c9] 32)
      have HO3 := Lib.hid (HO2.out.below hA)
      have HBO3 := Lib.hid (HBO2.out.below hA)
      have HB3 := Lib.hid (HB2.out.trans (hA.mono HB2.out.size))
      have src : Hid (Src Tryz.prog 1 42 (.slice (some ⟨w2.heap.size, 0, none⟩) 1 1) [Value.slice A9 B.length c9].length [.slice A9 B.length c9] (w2.alloc (.cells #[.slice A9 B.length c9] 32))) :=
        Src.ofSlice _ Tryz.underlying42 ⟨w2.heap.size, 0, none⟩ 1 1 [.slice A9 B.length c9] rfl (one_new _ _ rfl _ _) (by simp [Value.oneCell'])
      have hxl : xs.length ≤ 1000000 := by rw [HBO.out.1]; exact hls
      clear hA
      go_wp2_with (at_builtin; refine wpList_append_vals _ rfl _ _ 42 rfl w.heap.size xs [.slice A9 B.length c9] _ _ rfl rfl HO3.out src.out ?_ HB3.out.size ?_)
      · simp; omega
      intro v' w' hown' hgrow hblk
      have HOF := Lib.hid hown'
      have HBOF := Lib.hid (HBO3.out.grown hgrow (by rw [asz]; exact hblk))
      have HBF := Lib.hid (HB3.out.grown hgrow HB3.out.size (fun k hk => (HO3.out.lt k hk).1))
      have hBw : ∀ W, Below w.heap.size w W → At W a l := fun W hW => HAT.out.below hW
      have HFIN : Hid (endP (ls ++ [B]) = E + N) := HEND.out
      have hEN : E + N ≤ l.length := by have := HNN.out; omega
      clear hown' hgrow hblk
      by_cases k1 : cap = E + N
      · have HF2 : Hid (Calls Tryz.prog 127 #[.slice (some a) 0 0] w' fun e w'' => e = .returned (.int .i64 (firstP (l.drop (E + N)) : Nat)) ∧ Below w'.heap.size w' w'') := by
          have h0 : l.drop (E + N) = [] := List.drop_eq_nil_of_le (by omega)
          rw [h0]
          exact first_any (HM.out.below HBF.out) ⟨some a, 0, rfl, Nat.le_refl _, by unfold maxLen; omega, fun i b hi => by simp at hi⟩
        subst k1
        go_wp2_with fail
        refine (HF2.out).mono ?_
        rintro e w4 ⟨rfl, hb4⟩
        have HOG := Lib.hid (HOF.out.below hb4)
        have HBOG := Lib.hid (HBOF.out.below hb4)
        have HBG := Lib.hid (HBF.out.trans (hb4.mono HBF.out.size))
        clear hb4
        go_wp2_with fail
        go_roundw
        case rel => exact ⟨xs ++ [.slice A9 B.length c9], ls ++ [B], by rw [HFIN.out]; go_num, by rw [HFIN.out], HOG.out, HBOG.out, HNV2.out, HBE2.out, HBG.out⟩
        case measure => simp [intOf]; omega
      · have k2 : ¬ cap = E + N := k1
        have hv : BIs w' (.slice (some (a.add (E + N))) (l.length - (E + N)) (cap - (E + N))) (l.drop (E + N)) := by
          have := (HAT.out.from (E + N) (l.length - (E + N)) cap (by omega) hc (by unfold maxLen; omega)).below HBF.out
          rwa [List.take_of_length_le (by rw [List.length_drop]; omega)] at this
        have HF2 := Lib.hid (first_any (HM.out.below HBF.out) hv)
        have q6 : (E : Int) + (N : Int) ≤ (cap : Int) := by omega
        clear hv k1
        go_wp2_with fail
        refine (HF2.out).mono ?_
        rintro e w4 ⟨rfl, hb4⟩
        have HOG := Lib.hid (HOF.out.below hb4)
        have HBOG := Lib.hid (HBOF.out.below hb4)
        have HBG := Lib.hid (HBF.out.trans (hb4.mono HBF.out.size))
        clear hb4
        go_wp2_with fail
        go_roundw
        case rel => exact ⟨xs ++ [.slice A9 B.length c9], ls ++ [B], by rw [HFIN.out]; go_num, by rw [HFIN.out], HOG.out, HBOG.out, HNV2.out, HBE2.out, HBG.out⟩
        case measure => simp [intOf]; omega
theorem all_any {w : World} {v : Value} {l : List UInt8} (hM : Mov w) (h : BIs w v l) (hl : l.length ≤ 1000000) :
    Calls Tryz.prog 107 #[v] w fun e w' => ∃ x xs ls, e = .returned (.tuple #[x, .int .i64 (endP ls : Nat)]) ∧ OwnS w' w.heap.size x xs ∧ Bodies w' x xs ls ∧ Begins l ls ∧ firstP (l.drop (endP ls)) = 0 ∧ Below w.heap.size w w' :=
  (all_new hM h hl).mono fun e w' ⟨x, xs, ls, h1, h2, h3, _, h4⟩ => ⟨x, xs, ls, h1, h2, h3, h4⟩
theorem body_frame_rest {l : List UInt8} (hl : l.length ≤ 16384) (rest : List UInt8) : bodyP (frameB l ++ rest) = l := by
  unfold bodyP
  rw [szP_frame hl rest]
  have e : frameB l ++ rest = headB l.length ++ (l ++ (be4 (sumB (preB l)) ++ rest)) := by unfold frameB preB; simp only [List.append_assoc]
  have e3 : (headB l.length).length = 3 := rfl
  rw [e, ← e3, List.drop_left, List.take_left]
theorem Begins.at {l : List UInt8} {ls : List (List UInt8)} (h : Begins l ls) {k : Nat} (hk : k < ls.length) :
    firstP (l.drop (endP (ls.take k))) = ls[k].length + 7 ∧ bodyP (l.drop (endP (ls.take k))) = ls[k] ∧ endP (ls.take (k + 1)) = endP (ls.take k) + (ls[k].length + 7) ∧ endP (ls.take (k + 1)) ≤ l.length ∧ ls[k].length ≤ 16384 := by
  have hle := h.le ls[k] (List.getElem_mem hk)
  have e1 : ls.take (k + 1) = ls.take k ++ [ls[k]] := List.take_succ_eq_append_getElem hk
  have e2 : frs ls = frs (ls.take k) ++ (frameB ls[k] ++ frs (ls.drop (k + 1))) := by
    have : ls = ls.take (k + 1) ++ ls.drop (k + 1) := (List.take_append_drop _ _).symm
    conv => lhs; rw [this]
    unfold frs
    rw [List.flatMap_append, e1, List.flatMap_append]
    simp
  have e3 : l.drop (endP (ls.take k)) = frameB ls[k] ++ (frs (ls.drop (k + 1)) ++ l.drop (endP ls)) := by
    conv => lhs; rw [h.eq, e2]
    unfold endP
    rw [List.append_assoc, List.drop_left, List.append_assoc]
  refine ⟨by rw [e3, firstP_frame hle], by rw [e3, body_frame_rest hle], by rw [e1, endP_snoc], ?_, hle⟩
  have h1 := h.end_le
  have h2 : endP ls = endP (ls.take (k + 1)) + (frs (ls.drop (k + 1))).length := by
    unfold endP
    rw [e1, frs_snoc, e2]
    simp only [List.length_append]
    omega
  omega
theorem len_le_endP (ls : List (List UInt8)) : ls.length ≤ endP ls := by
  induction ls with
  | nil => simp [endP, frs]
  | cons m r ih =>
    have : endP (m :: r) = (m.length + 7) + endP r := by unfold endP frs; rw [List.flatMap_cons, List.length_append, frameB_len]
    rw [this, List.length_cons]; omega

theorem frameB_ne (l : List UInt8) : frameB l ≠ [] := fun h => by
  have := congrArg List.length h
  rw [frameB_len] at this
  simp at this
theorem OwnBy.form {w : World} {base : Nat} {v : Value} {l : List UInt8} (h : OwnBy w base v l) (hne : l ≠ []) : ∃ g c, v = .slice (some ⟨g, 0, none⟩) l.length c ∧ OwnC w base g c l := by
  rcases h with ⟨_, h⟩ | ⟨g, c, h, hc⟩
  · exact absurd h hne
  · exact ⟨g, c, h, hc⟩
theorem OwnC.upto {w : World} {base g cap : Nat} {l : List UInt8} (h : OwnC w base g cap l) (m : Nat) (hm : m ≤ l.length) : BIs w (.slice (some ⟨g, 0, none⟩) m cap) (l.take m) := by
  have hle := h.le
  refine ⟨some ⟨g, 0, none⟩, cap, by rw [List.length_take, Nat.min_eq_left hm], by rw [List.length_take]; omega, h.max, fun i b hi => ⟨_, rfl, h.lt, ?_⟩⟩
  rw [List.getElem?_take] at hi
  rw [add0]
  split at hi
  · exact h.holds _ b hi
  · cases hi

end Go.Proofs.YtnegnokielmgkaaGreatDoor

namespace Go.Proofs.YtnegnokielmgkaaGreatDoor

/-! frames -/
def frmF : Nat → List UInt8 → List (List UInt8)
  | 0, _ => []
  | k + 1, b => if firstP b = 0 then [] else bodyP b :: frmF k (b.drop (firstP b))
/-- The bodies of the frames with which bytes begin. -/
def frmB (b : List UInt8) : List (List UInt8) := frmF b.length b
theorem frs_cons' (m : List UInt8) (ls : List (List UInt8)) : frs (m :: ls) = frameB m ++ frs ls := by simp [frs]
theorem endP_cons' (m : List UInt8) (ls : List (List UInt8)) : endP (m :: ls) = m.length + 7 + endP ls := by unfold endP; rw [frs_cons', List.length_append, frameB_len]
theorem bodyP_frame {m : List UInt8} (hm : m.length ≤ 16384) (rest : List UInt8) : bodyP (frameB m ++ rest) = m := by
  have h0 : firstP (frameB m ++ rest) ≠ 0 := by rw [firstP_frame hm]; omega
  obtain ⟨l, hl, hll, h16, hf, he, hle⟩ := firstP_pos h0
  have := (frameB_inj hm h16 (r := rest) (s := (frameB m ++ rest).drop (l.length + 7)) he).1
  unfold bodyP
  rw [this]
  rw [← this]
  exact hl.symm.trans this.symm
theorem frmF_uniq : ∀ (ls : List (List UInt8)) (k : Nat) (b : List UInt8), b.length ≤ k → Begins b ls → firstP (b.drop (endP ls)) = 0 → frmF k b = ls := by
  intro ls
  induction ls with
  | nil =>
    intro k b hk hB h0
    have h0' : firstP b = 0 := by simpa [endP, frs] using h0
    cases k with
    | zero => rfl
    | succ k => unfold frmF; rw [if_pos h0']
  | cons m ls ih =>
    intro k b hk hB h0
    have hm := hB.le m (List.mem_cons_self ..)
    have he := hB.eq
    rw [frs_cons', List.append_assoc] at he
    have hlen := congrArg List.length he
    rw [List.length_append, frameB_len] at hlen
    have hfirst : firstP b = m.length + 7 := by rw [he]; exact firstP_frame hm _
    have hbody : bodyP b = m := by rw [he]; exact bodyP_frame hm _
    have hdrop : b.drop (m.length + 7) = frs ls ++ b.drop (endP (m :: ls)) := by
      conv => lhs; rw [he]
      rw [List.drop_left' (frameB_len m)]
    cases k with
    | zero => omega
    | succ k =>
      unfold frmF
      rw [if_neg (by rw [hfirst]; omega), hbody, hfirst]
      congr 1
      refine ih k _ (by rw [List.length_drop]; omega) ⟨?_, fun x hx => hB.le x (List.mem_cons_of_mem _ hx)⟩ ?_
      · rw [List.drop_drop, show m.length + 7 + endP ls = endP (m :: ls) from (endP_cons' m ls).symm]
        exact hdrop
      · rw [List.drop_drop, show m.length + 7 + endP ls = endP (m :: ls) from (endP_cons' m ls).symm]
        exact h0
theorem frmB_uniq {b : List UInt8} {ls : List (List UInt8)} (h : Begins b ls) (h0 : firstP (b.drop (endP ls)) = 0) : frmB b = ls := frmF_uniq ls _ b (Nat.le_refl _) h h0
theorem frmF_is : ∀ (k : Nat) (b : List UInt8), b.length ≤ k → Begins b (frmF k b) ∧ firstP (b.drop (endP (frmF k b))) = 0 := by
  intro k
  induction k with
  | zero =>
    intro b hb
    obtain rfl : b = [] := List.length_eq_zero_iff.1 (by omega)
    exact ⟨Begins.nil _, by simp [frmF, endP, frs, firstP]⟩
  | succ k ih =>
    intro b hb
    unfold frmF
    by_cases h0 : firstP b = 0
    · rw [if_pos h0]
      exact ⟨Begins.nil _, by simpa [endP, frs] using h0⟩
    · rw [if_neg h0]
      obtain ⟨l, hl, hll, h16, hf, he, hle⟩ := firstP_pos h0
      have hbd : bodyP b = l := hl.symm
      obtain ⟨i1, i2⟩ := ih (b.drop (firstP b)) (by rw [List.length_drop]; omega)
      rw [hf] at i1 i2 ⊢
      rw [hbd]
      rw [List.drop_drop, show l.length + 7 + endP (frmF k (b.drop (l.length + 7))) = endP (l :: frmF k (b.drop (l.length + 7))) from (endP_cons' _ _).symm] at i2
      refine ⟨⟨?_, fun x hx => ?_⟩, i2⟩
      · have e1 := i1.eq
        rw [List.drop_drop, show l.length + 7 + endP (frmF k (b.drop (l.length + 7))) = endP (l :: frmF k (b.drop (l.length + 7))) from (endP_cons' _ _).symm] at e1
        rw [frs_cons', List.append_assoc, ← e1]
        exact he
      · rcases List.mem_cons.1 hx with rfl | hx
        · exact h16
        · exact i1.le x hx
theorem frmB_is (b : List UInt8) : Begins b (frmB b) ∧ firstP (b.drop (endP (frmB b))) = 0 := frmF_is _ _ (Nat.le_refl _)
theorem frmB_frs {ls : List (List UInt8)} (h : ∀ m ∈ ls, m.length ≤ 16384) : frmB (frs ls) = ls :=
  frmB_uniq ⟨by simp [endP], h⟩ (by unfold endP; rw [List.drop_length]; simp [firstP])
theorem frmB_nil : frmB [] = [] := rfl

/-! a tape's segments in order -/
def insA (x : Sg) : List Sg → List Sg
  | [] => [x]
  | y :: l => if x.1 ≤ y.1 then x :: y :: l else y :: insA x l
theorem insA_perm (x : Sg) : ∀ (l : List Sg), (insA x l).Perm (x :: l)
  | [] => List.Perm.refl _
  | y :: l => by
    unfold insA
    split
    · exact List.Perm.refl _
    · exact ((insA_perm x l).cons y).trans (List.Perm.swap x y l)
theorem insA_sorted (x : Sg) : ∀ (l : List Sg), (l.Pairwise fun a b => a.1 ≤ b.1) → (insA x l).Pairwise fun a b => a.1 ≤ b.1
  | [], _ => List.pairwise_singleton _ _
  | y :: l, h => by
    unfold insA
    rw [List.pairwise_cons] at h
    split
    · rename_i hle
      rw [List.pairwise_cons, List.pairwise_cons]
      exact ⟨fun z hz => by
        rcases List.mem_cons.1 hz with rfl | hz
        · exact hle
        · exact Int.le_trans hle (h.1 z hz), h⟩
    · rename_i hle
      rw [List.pairwise_cons]
      refine ⟨fun z hz => ?_, insA_sorted x l h.2⟩
      rcases List.mem_cons.1 ((insA_perm x l).mem_iff.1 hz) with rfl | hz
      · omega
      · exact h.1 z hz
def riseA (A : List Sg) : List Sg := A.foldr insA []
def rise (p : Pl) : Pl := { p with A := riseA p.A }
theorem riseA_perm : ∀ (A : List Sg), (riseA A).Perm A
  | [] => List.Perm.refl _
  | x :: A => (insA_perm x (riseA A)).trans ((riseA_perm A).cons x)
theorem riseA_sorted : ∀ (A : List Sg), (riseA A).Pairwise fun a b => a.1 ≤ b.1
  | [] => List.Pairwise.nil
  | x :: A => insA_sorted x (riseA A) (riseA_sorted A)
theorem rise_eq (p : Pl) : (rise p).Eq p := ⟨rfl, riseA_perm _, rfl, rfl⟩
theorem numsOf_perm {A B : List Sg} (h : A.Perm B) : (numsOf A).Perm (numsOf B) := h.map _
theorem riseA_rises {A : List Sg} (h : (numsOf A).Nodup) : Rises (riseA A) := by
  have h1 := riseA_sorted A
  have h2 : (numsOf (riseA A)).Nodup := (numsOf_perm (riseA_perm A)).nodup_iff.2 h
  unfold numsOf at h2
  rw [List.Nodup, List.pairwise_map] at h2
  unfold Rises
  refine List.Pairwise.imp₂ (fun a b h3 h4 => ?_) h1 h2
  omega
theorem Rises.uniq {A B : List Sg} (hA : Rises A) (hB : Rises B) (h : A.Perm B) : A = B :=
  List.Perm.eq_of_pairwise (fun a b _ _ h1 h2 => by omega) hA hB h
theorem Pl.Eq.uniq {p q : Pl} (hp : Rises p.A) (hq : Rises q.A) (h : p.Eq q) : p = q := by
  obtain ⟨a, b, c, d⟩ := p
  obtain ⟨a', b', c', d'⟩ := q
  obtain ⟨h1, h2, h3, h4⟩ := h
  simp only at h1 h2 h3 h4 hp hq
  rw [h1, hp.uniq hq h2, h3, h4]
end Go.Proofs.YtnegnokielmgkaaGreatDoor
