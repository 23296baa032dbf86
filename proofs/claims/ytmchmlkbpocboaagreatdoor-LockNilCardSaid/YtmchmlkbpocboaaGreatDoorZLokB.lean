/- lock in memory: a set of numbers (map[int]struct{}); a lane. -/
import Derived.Test.YtmchmlkbpocboaaGreatDoorZLokA
import Derived.Test.YtmchmlkbpocboaaGreatDoorProg
import Derived.Test.YtmchmlkbpocboaaGreatDoorZTak
import Derived.Test.YtmchmlkbpocboaaGreatDoorZPagA
set_option linter.unusedSimpArgs false
set_option linter.unusedVariables false
set_option linter.unnecessarySimpa false
namespace Go.Proofs.YtmchmlkbpocboaaGreatDoor
open Go.RowKit
open Go.Maps (Keyed)

def InR64 (x : Int) : Prop := -9223372036854775808 ≤ x ∧ x ≤ 9223372036854775807
theorem keyedI : Keyed Tryz.prog 3 := Go.Maps.int_keyed Tryz.underlying3
theorem keyI {n : Int} (h : InR64 n) : keyOf Tryz.prog 3 (.int .i64 n) = some (.int .i64 n) := by
  refine Go.Maps.keyOf_int_mk Tryz.underlying3 ?_
  have e1 : IntKind.i64.min = -9223372036854775808 := by decide
  have e2 : IntKind.i64.max = 9223372036854775807 := by decide
  have h1 := h.1
  have h2 := h.2
  simp [Lit.wf, e1, e2, h1, h2]
theorem keyedS : Keyed Tryz.prog 9 := Go.Maps.string_keyed Tryz.underlying9
theorem zeroSt (W : World) : (zeroValue 81).run Tryz.prog W = .ok (.agg #[]) W := by kernel_rfl
/-- A set of numbers, in the order in which they came. -/
def SetI (w : World) (g : Nat) (S : List Int) : Prop := ∃ L clock, MapIs Tryz.prog 3 w g L clock ∧ (∀ e ∈ L, e.val = .agg #[]) ∧ L.map (·.key) = S.map (Value.int .i64) ∧ ∀ x ∈ S, InR64 x
theorem SetI.keep {w w' : World} {g : Nat} {S : List Int} (h : SetI w g S) (hk : w'.heap[g]? = w.heap[g]?) : SetI w' g S := by
  obtain ⟨L, c, h1, h2⟩ := h
  exact ⟨L, c, h1.keep hk, h2⟩
theorem SetI.lt {w : World} {g : Nat} {S : List Int} (h : SetI w g S) : g < w.heap.size := by
  obtain ⟨L, c, h1, _⟩ := h
  exact h1.lt
theorem SetI.nodup {w : World} {g : Nat} {S : List Int} (h : SetI w g S) : S.Nodup := by
  obtain ⟨L, c, h1, _, hk, _⟩ := h
  have h2 := h1.one
  rw [hk] at h2
  exact (List.pairwise_map.1 h2).imp (fun hne e => hne (by rw [e]))
theorem SetI.made (w : World) : SetI (w.alloc (.map #[] 0)) w.heap.size [] := ⟨[], 0, MapIs.made Tryz.prog 3 w, (fun e he => by cases he), rfl, fun x hx => by cases hx⟩
theorem SetI.at {L : List MapEntry} {S : List Int} (hk : L.map (·.key) = S.map (Value.int .i64)) {j : Nat} {x : Int} (hj : S[j]? = some x) : ∃ e, L[j]? = some e ∧ e.key = .int .i64 x := by
  have h1 : (L.map (·.key))[j]? = some (.int .i64 x) := by rw [hk, List.getElem?_map, hj]; rfl
  rw [List.getElem?_map] at h1
  cases he : L[j]? with
  | none => rw [he] at h1; cases h1
  | some e => rw [he] at h1; exact ⟨e, rfl, by simpa using h1⟩
theorem SetI.miss {L : List MapEntry} {S : List Int} (hk : L.map (·.key) = S.map (Value.int .i64)) {x : Int} (hx : x ∉ S) : ∀ e ∈ L, e.key ≠ .int .i64 x := fun e he ek => by
  have h1 : Value.int .i64 x ∈ L.map (·.key) := List.mem_map.2 ⟨e, he, ek⟩
  rw [hk, List.mem_map] at h1
  obtain ⟨y, hy, e2⟩ := h1
  injection e2 with _ e2
  exact hx (e2 ▸ hy)
theorem SetI.look {w : World} {g : Nat} {S : List Int} (h : SetI w g S) {x : Int} (hr : InR64 x) : (Instr.lookup 80 (.map (some g)) (.int .i64 x) true).run Tryz.prog w = .ok (.tuple #[.agg #[], .bool (decide (x ∈ S))]) w := by
  obtain ⟨L, c, h1, hv, hk, _⟩ := h
  by_cases hx : x ∈ S
  · obtain ⟨j, hj⟩ := List.getElem?_of_mem hx
    obtain ⟨e, he, ek⟩ := SetI.at hk hj
    have h5 := h1.look_hit keyedI Tryz.underlying80 (keyI hr) he ek true
    rw [hv e (List.mem_of_getElem? he)] at h5
    rw [decide_eq_true hx]
    exact h5
  · rw [decide_eq_false hx]
    exact h1.look_miss keyedI Tryz.underlying80 (zeroSt w) (keyI hr) (SetI.miss hk hx) true
theorem SetI.put {w : World} {g : Nat} {S : List Int} (h : SetI w g S) {x : Int} (hr : InR64 x) : ∃ w', (Instr.mapUpdate 80 (.map (some g)) (.int .i64 x) (.agg #[])).run Tryz.prog w = .ok () w' ∧ SetI w' g (if x ∈ S then S else S ++ [x]) ∧ Touch (fun k => k = g) w w' := by
  obtain ⟨L, c, h1, hv, hk, hin⟩ := h
  by_cases hx : x ∈ S
  · rw [if_pos hx]
    obtain ⟨j, hj⟩ := List.getElem?_of_mem hx
    obtain ⟨e, he, ek⟩ := SetI.at hk hj
    obtain ⟨r1, r2⟩ := h1.put_hit keyedI Tryz.underlying80 (v := .agg #[]) (keyI hr) he ek
    have hev := hv e (List.mem_of_getElem? he)
    have hset : L.set j { e with val := .agg #[] } = L := by
      have : ({ e with val := .agg #[] } : MapEntry) = e := by cases e; simp at hev; rw [hev]
      rw [this]
      obtain ⟨hl, e1⟩ := List.getElem?_eq_some_iff.1 he
      rw [← e1]
      exact List.set_getElem_self hl
    refine ⟨_, r1, ⟨_, _, r2, by rw [hset]; exact hv, by rw [hset]; exact hk, hin⟩, (Touch.refl (fun k => k = g) w).set g _ (fun _ => rfl)⟩
  · rw [if_neg hx]
    obtain ⟨r1, r2⟩ := h1.put_miss keyedI Tryz.underlying80 (v := .agg #[]) (keyI hr) (SetI.miss hk hx)
    refine ⟨_, r1, ⟨_, _, r2, fun e he => ?_, by rw [List.map_append, List.map_append, hk]; rfl, fun y hy => ?_⟩, (Touch.refl (fun k => k = g) w).set g _ (fun _ => rfl)⟩
    · rcases List.mem_append.1 he with h3 | h3
      · exact hv e h3
      · rw [List.mem_singleton.1 h3]
    · rcases List.mem_append.1 hy with h3 | h3
      · exact hin y h3
      · rw [List.mem_singleton.1 h3]; exact hr
theorem SetI.len {w : World} {g : Nat} {S : List Int} (h : SetI w g S) (ty : TypeId) : (Builtin.len_ #[80] ty #[.map (some g)]).run Tryz.prog w = .ok (.int .i64 (S.length : Int)) w := by
  obtain ⟨L, c, h1, hv, hk, hin⟩ := h
  have hl : L.length = S.length := by have := congrArg List.length hk; simpa using this
  have := h1.len Tryz.underlying80 ty
  rwa [hl] at this
theorem wpList_set_len {ops : Array Oper} {rest : List Oper} {o : Oper} {a : Act} {Q : Exit → Act → World → Prop} {w : World} {g : Nat} {S : List Int} (h : SetI w g S) (hg : o.guard = none) (m : Operand) (hop : o.op = Op.call { callee := Callee.builtin Builtin.len, args := #[m], argTypes := #[80] }) (hm : a.eval m = .map (some g))
    (hK : wpList Tryz.prog ops Q rest (a.put o.dst (.int .i64 (S.length : Int))) w) : wpList Tryz.prog ops Q (o :: rest) a w := by
  refine wpList_plain hg fun K' hK' => ?_
  unfold Oper.wp
  simp only [execOp, hop, resolve, invoke, builtin, Sem.run_bind, Sem.run_pure, Result.andThen_ok, List.map_toArray, List.map_cons, List.map_nil, hm, h.len o.type]
  exact hK' _ _ hK
theorem filter_none {S : List Int} {x : Int} (h : x ∉ S) : S.filter (· != x) = S := List.filter_eq_self.2 (fun y hy => by
  rw [bne_iff_ne]
  intro e
  exact h (e ▸ hy))
theorem filter_out : ∀ {S : List Int} {x : Int}, S.Nodup → x ∈ S → (S.filter (· != x)).length + 1 = S.length
  | y :: S, x, hn, hx => by
    have hn2 := List.nodup_cons.1 hn
    by_cases e : y = x
    · subst e
      rw [List.filter_cons, if_neg (by simp), filter_none hn2.1]
      rfl
    · have hx2 : x ∈ S := by
        rcases List.mem_cons.1 hx with h | h
        · exact absurd h.symm e
        · exact h
      rw [List.filter_cons, if_pos (by simpa using e), List.length_cons, List.length_cons, filter_out hn2.2 hx2]
/-- Claims that wait, as cells. -/
def cmC (l : List Cm) : List Value := l.flatMap fun c => [.int .i64 c.who, .bool c.mine]
theorem cmC_len (l : List Cm) : (cmC l).length = l.length * 2 := by
  unfold cmC
  induction l with
  | nil => rfl
  | cons c l ih =>
    rw [List.flatMap_cons, List.length_append, ih]
    show 2 + l.length * 2 = (l.length + 1) * 2
    omega
theorem cmC_at : ∀ {l : List Cm} {i : Nat} {c : Cm}, l[i]? = some c → (cmC l)[i * 2]? = some (.int .i64 c.who) ∧ (cmC l)[i * 2 + 1]? = some (.bool c.mine)
  | [], _, _, h => by cases h
  | d :: l, 0, c, h => by cases h; exact ⟨rfl, rfl⟩
  | d :: l, i + 1, c, h => by
    obtain ⟨h1, h2⟩ := cmC_at (l := l) (i := i) (c := c) h
    have e : cmC (d :: l) = [.int .i64 d.who, .bool d.mine] ++ cmC l := rfl
    rw [e]
    refine ⟨?_, ?_⟩
    · rw [List.getElem?_append_right (by simp; omega), ← h1]; congr 1; simp; omega
    · rw [List.getElem?_append_right (by simp; omega), ← h2]; congr 1; simp; omega
/-- A slice of one's own, or nil, from whatever offset of its block on. -/
def RowA (w : World) (z : Nat) (v : Value) (n : Nat) (l : List Value) : Prop := (v = .slice none 0 0 ∧ n = 0 ∧ l = []) ∨ ∃ g o cap, v = .slice (some ⟨g, o, none⟩) n cap ∧ l.length = n * z ∧ n ≤ cap ∧ Area w z g o cap l
theorem RowA.lt {w : World} {z : Nat} {v : Value} {n : Nat} {l : List Value} (h : RowA w z v n l) : ∀ g, v.ownBlock = some g → g < w.heap.size := fun k hk => by
  rcases h with ⟨rfl, _⟩ | ⟨g, o, cap, rfl, _, _, h⟩
  · cases hk
  · cases hk; exact h.lt
theorem RowA.keep {w w' : World} {z : Nat} {v : Value} {n : Nat} {l : List Value} (h : RowA w z v n l) (hs : w.heap.size ≤ w'.heap.size) (hk : ∀ g, v.ownBlock = some g → w'.heap[g]? = w.heap[g]?) : RowA w' z v n l := by
  rcases h with h | ⟨g, o, cap, rfl, h1, h2, h⟩
  · exact .inl h
  · have e := hk g rfl
    exact .inr ⟨g, o, cap, rfl, h1, h2, Nat.lt_of_lt_of_le h.lt hs, h.le, h.max, fun j u hj => (World.cell?_of_block (a := ⟨g, o + j, none⟩) e).trans (h.holds j u hj), fun j hj => by rw [World.cell?_of_block (a := ⟨g, o + j, none⟩) e, World.frozen?_of_block (a := ⟨g, o + j, none⟩) e]; exact h.there j hj, h.one⟩
theorem RowA.touch {S : Nat → Prop} {w w' : World} {z : Nat} {v : Value} {n : Nat} {l : List Value} (h : RowA w z v n l) (hb : Touch S w w') (hS : ∀ g, v.ownBlock = some g → ¬ S g) : RowA w' z v n l := h.keep hb.size (fun g hg => hb.block g (h.lt g hg) (hS g hg))
theorem RowA.form {w : World} {z : Nat} {v : Value} {n : Nat} {l : List Value} (h : RowA w z v n l) : ∃ A cap, v = .slice A n cap ∧ n ≤ cap ∧ cap ≤ maxLen ∧ ∀ j u, l[j]? = some u → ∃ g o, A = some ⟨g, o, none⟩ ∧ w.cell? ⟨g, o + j, none⟩ = some u := by
  rcases h with ⟨rfl, rfl, rfl⟩ | ⟨g, o, cap, rfl, h1, h2, h⟩
  · exact ⟨none, 0, rfl, Nat.le_refl _, by unfold maxLen; omega, fun j u hj => by simp at hj⟩
  · exact ⟨_, cap, rfl, h2, h.max, fun j u hj => ⟨g, o, rfl, h.holds j u hj⟩⟩
/-- A lane in memory: its block b, its holders' map gh, its row rv. -/
structure LnAt (w : World) (b gh : Nat) (rv : Value) (l : Ln) : Prop where
  head : w.heap[b]? = some (.cells #[.map (some gh), .bool l.mine, rv] 84 (0, 0))
  held : SetI w gh l.held
  row : RowA w 2 rv l.row.length (cmC l.row)
  nums : ∀ c ∈ l.row, InR64 c.who
  off : gh ≠ b ∧ rv.ownBlock ≠ some b ∧ rv.ownBlock ≠ some gh
theorem LnAt.keep {w w' : World} {b gh : Nat} {rv : Value} {l : Ln} (h : LnAt w b gh rv l) (hs : w.heap.size ≤ w'.heap.size) (h1 : w'.heap[b]? = w.heap[b]?) (h2 : w'.heap[gh]? = w.heap[gh]?) (h3 : ∀ g, rv.ownBlock = some g → w'.heap[g]? = w.heap[g]?) : LnAt w' b gh rv l :=
  ⟨h1.trans h.head, h.held.keep h2, h.row.keep hs h3, h.nums, h.off⟩
theorem LnAt.below {w w' : World} {b gh : Nat} {rv : Value} {l : Ln} (h : LnAt w b gh rv l) (hb : Below w.heap.size w w') : LnAt w' b gh rv l :=
  h.keep hb.size (hb.block _ (heap_lt h.head)) (hb.block _ h.held.lt) (fun g hg => hb.block _ (h.row.lt g hg))
set_option maxRecDepth 100000 in
set_option maxHeartbeats 1000000 in
theorem together_any (a b : Bool) (w : World) : Calls Tryz.prog 65 #[.bool a, .bool b] w fun e w' => e = .returned (.bool (togP a b)) ∧ w = w' := by
  cases a with
  | false =>
    go_enter Tryz.func65, Tryz.ntmps65
    go_wp2_with fail
    refine bodyPost_ret (v := .bool (togP false b)) (by cases b <;> simp [results, Tryz.results65, go_sem, togP]) rfl ⟨rfl, rfl⟩
  | true =>
    go_enter Tryz.func65, Tryz.ntmps65
    go_wp2_with fail
    refine bodyPost_ret (v := .bool (togP true b)) (by cases b <;> simp [results, Tryz.results65, go_sem, togP]) rfl ⟨rfl, rfl⟩
set_option maxRecDepth 100000 in
set_option maxHeartbeats 1000000 in
theorem holds_any {w : World} {b gh : Nat} {rv : Value} {l : Ln} {who : Int} (h : LnAt w b gh rv l) (hw : InR64 who) : Calls Tryz.prog 40 #[.pointer (some ⟨b, 0, none⟩), .int .i64 who] w fun e w' => e = .returned (.bool (decide (who ∈ l.held))) ∧ Below w.heap.size w w' := by
  have qL := Lib.hid (h.held.look hw)
  have k0 := cell_of h.head 0
  obtain ⟨d, hd⟩ : ∃ d, decide (who ∈ l.held) = d := ⟨_, rfl⟩
  rw [hd] at qL ⊢
  have q := qL.out
  clear h hd qL
  go_enter Tryz.func40, Tryz.ntmps40
  go_wp2_with fail
  go_ret
  exact ⟨rfl, below_new _⟩
set_option maxRecDepth 100000 in
set_option maxHeartbeats 2000000 in
theorem lets_any {w : World} {b gh : Nat} {rv : Value} {l : Ln} {c : Cm} (h : LnAt w b gh rv l) (hw : InR64 c.who) (hl : l.held.length ≤ 100000) : Calls Tryz.prog 70 #[.pointer (some ⟨b, 0, none⟩), .agg #[.int .i64 c.who, .bool c.mine]] w fun e w' => e = .returned (.bool (letsP l c)) ∧ Below w.heap.size w w' := by
  have hb1 := below_new (w := w) (.cells #[.int .i64 c.who, .bool c.mine] 106)
  have hx1 := alloc_at w (.cells #[.int .i64 c.who, .bool c.mine] 106)
  obtain ⟨w1, hw1⟩ : ∃ w1, w1 = w.alloc (.cells #[.int .i64 c.who, .bool c.mine] 106) := ⟨_, rfl⟩
  rw [← hw1] at hb1 hx1
  have HW1 := Lib.hid hw1
  have HB1 := Lib.hid hb1
  have HX1 := Lib.hid hx1
  have h1 := h.below hb1
  have HSET : Hid (SetI (w.alloc (.cells #[.int .i64 c.who, .bool c.mine] 106)) gh l.held) := Lib.hid (by rw [← hw1]; exact h1.held)
  have k0' := cell_of h1.head 0
  rw [hw1] at k0'
  have HH := Lib.hid h1
  have HO := Lib.hid (holds_any h1 hw)
  have k0 := cell_of h1.head 0
  have k1 := cell_of h1.head 1
  have c0 := cell_of hx1 0
  have c1 := cell_of hx1 1
  have hn := h1.held.nodup
  have hIl : (l.held.length : Int) ≤ 100000 := by omega
  clear h hb1 hx1 hw1 h1
  go_enter Tryz.func70, Tryz.ntmps70
  go_wp2_with (with_reducible refine wpList_set_len HSET.out rfl (.tmp 9) rfl rfl ?_)
  rw [← HW1.out]
  refine (HO.out).mono ?_
  rintro e w2 ⟨rfl, hb2⟩
  have hb12 := HB1.out.trans (hb2.mono HB1.out.size)
  have HB2 := Lib.hid hb12
  have HK2 : Hid (w2.cell? ⟨b, 1, none⟩ = some (.bool l.mine) ∧ w2.cell? ⟨w.heap.size, 1, none⟩ = some (.bool c.mine)) := Lib.hid ⟨cell_of ((hb2.block _ (heap_lt HH.out.head)).trans HH.out.head) 1, cell_of ((hb2.block _ (heap_lt HX1.out)).trans HX1.out) 1⟩
  obtain ⟨n, hfn⟩ : ∃ n, (l.held.filter (· != c.who)).length = n := ⟨_, rfl⟩
  have HFE : Hid ((l.held.filter (· != c.who)).isEmpty = decide (n = 0)) := Lib.hid (by
    rw [← hfn]
    cases l.held.filter (· != c.who) <;> simp)
  by_cases hin : c.who ∈ l.held
  · rw [decide_eq_true hin]
    have hlen : l.held.length = n + 1 := by rw [← hfn]; exact (filter_out hn hin).symm
    rw [hlen] at hIl ⊢
    have hwn : IntKind.i64.wrap (n : Int) = (n : Int) := IntWalk.i64_in _ (by omega)
    clear hb2 hb12 hfn hin hlen hn k0 k1 c0 c1 k0'
    by_cases hn0 : n = 0
    · have HZ : Hid (letsP l c = true) := Lib.hid (by unfold letsP; rw [HFE.out, hn0]; rfl)
      have hnb : ((n : Int) == 0) = true := by rw [beq_iff_eq]; omega
      clear hn0
      go_wp2_with fail
      refine wp_region_held_drew (S := fun W => True) (by kernel_rfl) trivial (fun hHeld => ?_)
      refine wpAnyH_take (i := 0) (oi := { dst := some 17, op := Op.move (Operand.tmp 5), type := 3, pos := "lane.go:88", after := #[], guard := none }) (v := ?vv1) rfl (by kernel_rfl) (by kernel_rfl) (by kernel_rfl) (fun _ _ _ h => h) ?hy1 (by assumption) ?rest1
      case hy1 => (refine Or.inl ⟨by rfl, ?_⟩; intro W hSw; (try dsimp only at hSw); go_simp; (try with_reducible rfl))
      try simp only [Act.put, List.setIfInBounds_toArray, List.set_cons_zero, List.set_cons_succ]
      refine wpAnyH_take (i := 1) (oi := { dst := some 18, op := Op.binOp BinOp.eql 3 (Operand.tmp 17) (Operand.const (Value.int IntKind.i64 0)) 3, type := 4, pos := "lane.go:88", after := #[{ on := 0, ground := Ground.data }], guard := none }) (v := (.bool true)) rfl (by kernel_rfl) (by kernel_rfl) (by kernel_rfl) (fun _ _ _ h => h) ?hy2 (by assumption) ?rest2
      case hy2 => ((refine Or.inl ⟨by rfl, ?_⟩; intro W hSw; (try dsimp only at hSw); go_simp; (first | done | with_reducible rfl | omega | simp_all)))
      try simp only [Act.put, List.setIfInBounds_toArray, List.set_cons_zero, List.set_cons_succ]
      refine wpAnyH_take (i := 2) (oi := { dst := some 19, op := Op.move (Operand.tmp 18), type := 4, pos := "lane.go:88", after := #[{ on := 1, ground := Ground.data }], guard := none }) (v := ?vv3) rfl (by kernel_rfl) (by kernel_rfl) (by kernel_rfl) (fun _ _ _ h => h) ?hy3 (by assumption) ?rest3
      case hy3 => (refine Or.inl ⟨by rfl, ?_⟩; intro W hSw; (try dsimp only at hSw); go_simp; (try with_reducible rfl))
      try simp only [Act.put, List.setIfInBounds_toArray, List.set_cons_zero, List.set_cons_succ]
      refine wpAnyH_take (i := 3) (oi := { dst := some 20, op := Op.move (Operand.tmp 0), type := 71, pos := "lane.go:88", after := #[{ on := 2, ground := Ground.guard }], guard := some (2, false) }) (v := undef) rfl (by kernel_rfl) (by kernel_rfl) (by kernel_rfl) (fun _ _ _ h => h) ?hy4 (by assumption) ?rest4
      case hy4 => (exact Or.inr ⟨by rfl, rfl⟩)
      try simp only [Act.put, List.setIfInBounds_toArray, List.set_cons_zero, List.set_cons_succ]
      refine wpAnyH_take (i := 4) (oi := { dst := some 21, op := Op.nilCheck (Operand.tmp 20), type := 0, pos := "lane.go:88", after := #[{ on := 3, ground := Ground.data }, { on := 2, ground := Ground.guard }], guard := some (2, false) }) (v := undef) rfl (by kernel_rfl) (by kernel_rfl) (by kernel_rfl) (fun _ _ _ h => h) ?hy5 (by assumption) ?rest5
      case hy5 => (exact Or.inr ⟨by rfl, rfl⟩)
      try simp only [Act.put, List.setIfInBounds_toArray, List.set_cons_zero, List.set_cons_succ]
      refine wpAnyH_take (i := 5) (oi := { dst := some 22, op := Op.fieldAddr 84 (Operand.tmp 21) 1, type := 0, pos := "lane.go:88", after := #[{ on := 4, ground := Ground.data }, { on := 2, ground := Ground.guard }], guard := some (2, false) }) (v := undef) rfl (by kernel_rfl) (by kernel_rfl) (by kernel_rfl) (fun _ _ _ h => h) ?hy6 (by assumption) ?rest6
      case hy6 => (exact Or.inr ⟨by rfl, rfl⟩)
      try simp only [Act.put, List.setIfInBounds_toArray, List.set_cons_zero, List.set_cons_succ]
      refine wpAnyH_take (i := 6) (oi := { dst := some 23, op := Op.load 4 (Operand.tmp 22), type := 4, pos := "lane.go:88", after := #[{ on := 5, ground := Ground.data }, { on := 2, ground := Ground.guard }], guard := some (2, false) }) (v := undef) rfl (by kernel_rfl) (by kernel_rfl) (by kernel_rfl) (fun _ _ _ h => h) ?hy7 (by assumption) ?rest7
      case hy7 => (exact Or.inr ⟨by rfl, rfl⟩)
      try simp only [Act.put, List.setIfInBounds_toArray, List.set_cons_zero, List.set_cons_succ]
      refine wpAnyH_take (i := 7) (oi := { dst := some 24, op := Op.fieldAddr 106 (Operand.tmp 3) 1, type := 0, pos := "lane.go:88", after := #[{ on := 2, ground := Ground.guard }], guard := some (2, false) }) (v := undef) rfl (by kernel_rfl) (by kernel_rfl) (by kernel_rfl) (fun _ _ _ h => h) ?hy8 (by assumption) ?rest8
      case hy8 => (exact Or.inr ⟨by rfl, rfl⟩)
      try simp only [Act.put, List.setIfInBounds_toArray, List.set_cons_zero, List.set_cons_succ]
      refine wpAnyH_take (i := 8) (oi := { dst := some 25, op := Op.load 4 (Operand.tmp 24), type := 4, pos := "lane.go:88", after := #[{ on := 7, ground := Ground.data }, { on := 2, ground := Ground.guard }], guard := some (2, false) }) (v := undef) rfl (by kernel_rfl) (by kernel_rfl) (by kernel_rfl) (fun _ _ _ h => h) ?hy9 (by assumption) ?rest9
      case hy9 => (exact Or.inr ⟨by rfl, rfl⟩)
      try simp only [Act.put, List.setIfInBounds_toArray, List.set_cons_zero, List.set_cons_succ]
      refine wpAnyH_take (i := 9) (oi := { dst := some 26, op := Op.call { callee := Callee.value (Operand.func 65), args := #[Operand.tmp 23, Operand.tmp 25], argTypes := #[4, 4] }, type := 4, pos := "lane.go:88", after := #[{ on := 6, ground := Ground.data }, { on := 8, ground := Ground.data }, { on := 2, ground := Ground.chain }, { on := 2, ground := Ground.guard }], guard := some (2, false) }) (v := undef) rfl (by kernel_rfl) (by kernel_rfl) (by kernel_rfl) (fun _ _ _ h => h) ?hy10 (by assumption) ?rest10
      case hy10 => (exact Or.inr ⟨by rfl, rfl⟩)
      try simp only [Act.put, List.setIfInBounds_toArray, List.set_cons_zero, List.set_cons_succ]
      refine wpAnyH_take (i := 10) (oi := { dst := some 27, op := Op.pick (Operand.tmp 19) (Operand.const (Value.bool true)) (Operand.tmp 26), type := 4, pos := "lane.go:88", after := #[{ on := 2, ground := Ground.data }, { on := 9, ground := Ground.data }], guard := none }) (v := (.bool true)) rfl (by kernel_rfl) (by kernel_rfl) (by kernel_rfl) (fun _ _ _ h => h) ?hy11 (by assumption) ?rest11
      case hy11 => ((refine Or.inl ⟨by rfl, ?_⟩; intro W hSw; (try dsimp only at hSw); go_simp; (first | done | with_reducible rfl | omega | simp_all)))
      try simp only [Act.put, List.setIfInBounds_toArray, List.set_cons_zero, List.set_cons_succ]
      refine wpAnyH_take (i := 11) (oi := { dst := some 4, op := Op.assign (Operand.tmp 27), type := 4, pos := "lane.go:88", after := #[{ on := 10, ground := Ground.data }, { on := 9, ground := Ground.chain }, { on := 0, ground := Ground.phase }, { on := 1, ground := Ground.phase }, { on := 2, ground := Ground.phase }, { on := 3, ground := Ground.phase }, { on := 4, ground := Ground.phase }, { on := 5, ground := Ground.phase }, { on := 6, ground := Ground.phase }, { on := 7, ground := Ground.phase }, { on := 8, ground := Ground.phase }, { on := 9, ground := Ground.phase }, { on := 10, ground := Ground.phase }], guard := none }) (v := ?vv12) rfl (by kernel_rfl) (by kernel_rfl) (by kernel_rfl) (fun _ _ _ h => h) ?hy12 (by assumption) ?rest12
      case hy12 => (refine Or.inl ⟨by rfl, ?_⟩; intro W hSw; (try dsimp only at hSw); go_simp; (try with_reducible rfl))
      try simp only [Act.put, List.setIfInBounds_toArray, List.set_cons_zero, List.set_cons_succ]
      refine wpAnyH_done (by kernel_rfl) ?_ _
      go_wp2_with fail
      refine bodyPost_ret (v := .bool true) (by simp [results, Tryz.results70, go_sem]) rfl ⟨by rw [HZ.out], below_drew HB2.out⟩
    · have HZ : Hid (letsP l c = togP l.mine c.mine) := Lib.hid (by unfold letsP; rw [HFE.out, decide_eq_false hn0]; rfl)
      have hnb : ((n : Int) == 0) = false := by rw [beq_eq_false_iff_ne]; omega
      clear hn0
      go_wp2_with fail
      refine wp_region_held_drew (S := fun W => W.cell? ⟨b, 1, none⟩ = some (.bool l.mine) ∧ W.cell? ⟨w.heap.size, 1, none⟩ = some (.bool c.mine)) (by kernel_rfl) ⟨HK2.out.1, HK2.out.2⟩ (fun hHeld => ?_)
      refine wpAnyH_take (i := 0) (oi := { dst := some 17, op := Op.move (Operand.tmp 5), type := 3, pos := "lane.go:88", after := #[], guard := none }) (v := ?vv13) rfl (by kernel_rfl) (by kernel_rfl) (by kernel_rfl) (fun _ _ _ h => h) ?hy13 (by assumption) ?rest13
      case hy13 => (refine Or.inl ⟨by rfl, ?_⟩; intro W hSw; (try dsimp only at hSw); go_simp; (try with_reducible rfl))
      try simp only [Act.put, List.setIfInBounds_toArray, List.set_cons_zero, List.set_cons_succ]
      refine wpAnyH_take (i := 1) (oi := { dst := some 18, op := Op.binOp BinOp.eql 3 (Operand.tmp 17) (Operand.const (Value.int IntKind.i64 0)) 3, type := 4, pos := "lane.go:88", after := #[{ on := 0, ground := Ground.data }], guard := none }) (v := (.bool false)) rfl (by kernel_rfl) (by kernel_rfl) (by kernel_rfl) (fun _ _ _ h => h) ?hy14 (by assumption) ?rest14
      case hy14 => ((refine Or.inl ⟨by rfl, ?_⟩; intro W hSw; (try dsimp only at hSw); go_simp; (first | done | with_reducible rfl | omega | simp_all)))
      try simp only [Act.put, List.setIfInBounds_toArray, List.set_cons_zero, List.set_cons_succ]
      refine wpAnyH_take (i := 2) (oi := { dst := some 19, op := Op.move (Operand.tmp 18), type := 4, pos := "lane.go:88", after := #[{ on := 1, ground := Ground.data }], guard := none }) (v := ?vv15) rfl (by kernel_rfl) (by kernel_rfl) (by kernel_rfl) (fun _ _ _ h => h) ?hy15 (by assumption) ?rest15
      case hy15 => (refine Or.inl ⟨by rfl, ?_⟩; intro W hSw; (try dsimp only at hSw); go_simp; (try with_reducible rfl))
      try simp only [Act.put, List.setIfInBounds_toArray, List.set_cons_zero, List.set_cons_succ]
      refine wpAnyH_take (i := 3) (oi := { dst := some 20, op := Op.move (Operand.tmp 0), type := 71, pos := "lane.go:88", after := #[{ on := 2, ground := Ground.guard }], guard := some (2, false) }) (v := ?vv16) rfl (by kernel_rfl) (by kernel_rfl) (by kernel_rfl) (fun _ _ _ h => h) ?hy16 (by assumption) ?rest16
      case hy16 => (refine Or.inl ⟨by rfl, ?_⟩; intro W hSw; (try dsimp only at hSw); go_simp; (try with_reducible rfl))
      try simp only [Act.put, List.setIfInBounds_toArray, List.set_cons_zero, List.set_cons_succ]
      refine wpAnyH_take (i := 4) (oi := { dst := some 21, op := Op.nilCheck (Operand.tmp 20), type := 0, pos := "lane.go:88", after := #[{ on := 3, ground := Ground.data }, { on := 2, ground := Ground.guard }], guard := some (2, false) }) (v := ?vv17) rfl (by kernel_rfl) (by kernel_rfl) (by kernel_rfl) (fun _ _ _ h => h) ?hy17 (by assumption) ?rest17
      case hy17 => (refine Or.inl ⟨by rfl, ?_⟩; intro W hSw; (try dsimp only at hSw); go_simp; (try with_reducible rfl))
      try simp only [Act.put, List.setIfInBounds_toArray, List.set_cons_zero, List.set_cons_succ]
      refine wpAnyH_take (i := 5) (oi := { dst := some 22, op := Op.fieldAddr 84 (Operand.tmp 21) 1, type := 0, pos := "lane.go:88", after := #[{ on := 4, ground := Ground.data }, { on := 2, ground := Ground.guard }], guard := some (2, false) }) (v := ?vv18) rfl (by kernel_rfl) (by kernel_rfl) (by kernel_rfl) (fun _ _ _ h => h) ?hy18 (by assumption) ?rest18
      case hy18 => (refine Or.inl ⟨by rfl, ?_⟩; intro W hSw; (try dsimp only at hSw); go_simp; (try with_reducible rfl))
      try simp only [Act.put, List.setIfInBounds_toArray, List.set_cons_zero, List.set_cons_succ]
      refine wpAnyH_take (i := 6) (oi := { dst := some 23, op := Op.load 4 (Operand.tmp 22), type := 4, pos := "lane.go:88", after := #[{ on := 5, ground := Ground.data }, { on := 2, ground := Ground.guard }], guard := some (2, false) }) (v := ?vv19) rfl (by kernel_rfl) (by kernel_rfl) (by kernel_rfl) (fun _ _ _ h => h) ?hy19 (by assumption) ?rest19
      case hy19 => (refine Or.inl ⟨by rfl, ?_⟩; intro W hSw; (try dsimp only at hSw); go_simp; (try with_reducible rfl))
      try simp only [Act.put, List.setIfInBounds_toArray, List.set_cons_zero, List.set_cons_succ]
      refine wpAnyH_take (i := 7) (oi := { dst := some 24, op := Op.fieldAddr 106 (Operand.tmp 3) 1, type := 0, pos := "lane.go:88", after := #[{ on := 2, ground := Ground.guard }], guard := some (2, false) }) (v := ?vv20) rfl (by kernel_rfl) (by kernel_rfl) (by kernel_rfl) (fun _ _ _ h => h) ?hy20 (by assumption) ?rest20
      case hy20 => (refine Or.inl ⟨by rfl, ?_⟩; intro W hSw; (try dsimp only at hSw); go_simp; (try with_reducible rfl))
      try simp only [Act.put, List.setIfInBounds_toArray, List.set_cons_zero, List.set_cons_succ]
      refine wpAnyH_take (i := 8) (oi := { dst := some 25, op := Op.load 4 (Operand.tmp 24), type := 4, pos := "lane.go:88", after := #[{ on := 7, ground := Ground.data }, { on := 2, ground := Ground.guard }], guard := some (2, false) }) (v := ?vv21) rfl (by kernel_rfl) (by kernel_rfl) (by kernel_rfl) (fun _ _ _ h => h) ?hy21 (by assumption) ?rest21
      case hy21 => (refine Or.inl ⟨by rfl, ?_⟩; intro W hSw; (try dsimp only at hSw); go_simp; (try with_reducible rfl))
      try simp only [Act.put, List.setIfInBounds_toArray, List.set_cons_zero, List.set_cons_succ]
      refine wpAnyH_ready (rs := [9]) (by kernel_rfl) (by simp) ?_
      refine AllReadyH.cons (o := { dst := some 26, op := Op.call { callee := Callee.value (Operand.func 65), args := #[Operand.tmp 23, Operand.tmp 25], argTypes := #[4, 4] }, type := 4, pos := "lane.go:88", after := #[{ on := 6, ground := Ground.data }, { on := 8, ground := Ground.data }, { on := 2, ground := Ground.chain }, { on := 2, ground := Ground.guard }], guard := some (2, false) }) rfl (fun K hK => ?step22) ?more22
      case more22 => exact AllReadyH.nil
      ((go_simp; go_at_call 65; refine (together_any _ _ _).mono ?_; rintro e w3 ⟨rfl, rfl⟩; go_wp2_with fail))
      refine hK.out _ _ ?hS22 (fun hHeld => ?rr22)
      case hS22 => (exact ⟨HK2.out.1, HK2.out.2⟩)
      clear hK K
      try simp only [Act.put, List.setIfInBounds_toArray, List.set_cons_zero, List.set_cons_succ]
      refine wpAnyH_take (i := 10) (oi := { dst := some 27, op := Op.pick (Operand.tmp 19) (Operand.const (Value.bool true)) (Operand.tmp 26), type := 4, pos := "lane.go:88", after := #[{ on := 2, ground := Ground.data }, { on := 9, ground := Ground.data }], guard := none }) (v := (.bool (togP l.mine c.mine))) rfl (by kernel_rfl) (by kernel_rfl) (by kernel_rfl) (fun _ _ _ h => h) ?hy23 (by assumption) ?rest23
      case hy23 => ((refine Or.inl ⟨by rfl, ?_⟩; intro W hSw; (try dsimp only at hSw); go_simp; (first | done | with_reducible rfl | omega | simp_all)))
      try simp only [Act.put, List.setIfInBounds_toArray, List.set_cons_zero, List.set_cons_succ]
      refine wpAnyH_take (i := 11) (oi := { dst := some 4, op := Op.assign (Operand.tmp 27), type := 4, pos := "lane.go:88", after := #[{ on := 10, ground := Ground.data }, { on := 9, ground := Ground.chain }, { on := 0, ground := Ground.phase }, { on := 1, ground := Ground.phase }, { on := 2, ground := Ground.phase }, { on := 3, ground := Ground.phase }, { on := 4, ground := Ground.phase }, { on := 5, ground := Ground.phase }, { on := 6, ground := Ground.phase }, { on := 7, ground := Ground.phase }, { on := 8, ground := Ground.phase }, { on := 9, ground := Ground.phase }, { on := 10, ground := Ground.phase }], guard := none }) (v := ?vv24) rfl (by kernel_rfl) (by kernel_rfl) (by kernel_rfl) (fun _ _ _ h => h) ?hy24 (by assumption) ?rest24
      case hy24 => (refine Or.inl ⟨by rfl, ?_⟩; intro W hSw; (try dsimp only at hSw); go_simp; (try with_reducible rfl))
      try simp only [Act.put, List.setIfInBounds_toArray, List.set_cons_zero, List.set_cons_succ]
      refine wpAnyH_done (by kernel_rfl) ?_ _
      go_wp2_with fail
      refine bodyPost_ret (v := .bool (togP l.mine c.mine)) (by simp [results, Tryz.results70, go_sem]) rfl ⟨by rw [HZ.out], below_drew HB2.out⟩
  · rw [decide_eq_false hin]
    have hlen : l.held.length = n := by rw [← hfn, filter_none hin]
    rw [hlen] at hIl ⊢
    clear hb2 hb12 hfn hin hlen hn k0 k1 c0 c1 k0'
    by_cases hn0 : n = 0
    · have HZ : Hid (letsP l c = true) := Lib.hid (by unfold letsP; rw [HFE.out, hn0]; rfl)
      have hnb : ((n : Int) == 0) = true := by rw [beq_iff_eq]; omega
      clear hn0
      go_wp2_with fail
      refine wp_region_held_drew (S := fun W => True) (by kernel_rfl) trivial (fun hHeld => ?_)
      refine wpAnyH_take (i := 0) (oi := { dst := some 17, op := Op.move (Operand.tmp 5), type := 3, pos := "lane.go:88", after := #[], guard := none }) (v := ?vv25) rfl (by kernel_rfl) (by kernel_rfl) (by kernel_rfl) (fun _ _ _ h => h) ?hy25 (by assumption) ?rest25
      case hy25 => (refine Or.inl ⟨by rfl, ?_⟩; intro W hSw; (try dsimp only at hSw); go_simp; (try with_reducible rfl))
      try simp only [Act.put, List.setIfInBounds_toArray, List.set_cons_zero, List.set_cons_succ]
      refine wpAnyH_take (i := 1) (oi := { dst := some 18, op := Op.binOp BinOp.eql 3 (Operand.tmp 17) (Operand.const (Value.int IntKind.i64 0)) 3, type := 4, pos := "lane.go:88", after := #[{ on := 0, ground := Ground.data }], guard := none }) (v := (.bool true)) rfl (by kernel_rfl) (by kernel_rfl) (by kernel_rfl) (fun _ _ _ h => h) ?hy26 (by assumption) ?rest26
      case hy26 => ((refine Or.inl ⟨by rfl, ?_⟩; intro W hSw; (try dsimp only at hSw); go_simp; (first | done | with_reducible rfl | omega | simp_all)))
      try simp only [Act.put, List.setIfInBounds_toArray, List.set_cons_zero, List.set_cons_succ]
      refine wpAnyH_take (i := 2) (oi := { dst := some 19, op := Op.move (Operand.tmp 18), type := 4, pos := "lane.go:88", after := #[{ on := 1, ground := Ground.data }], guard := none }) (v := ?vv27) rfl (by kernel_rfl) (by kernel_rfl) (by kernel_rfl) (fun _ _ _ h => h) ?hy27 (by assumption) ?rest27
      case hy27 => (refine Or.inl ⟨by rfl, ?_⟩; intro W hSw; (try dsimp only at hSw); go_simp; (try with_reducible rfl))
      try simp only [Act.put, List.setIfInBounds_toArray, List.set_cons_zero, List.set_cons_succ]
      refine wpAnyH_take (i := 3) (oi := { dst := some 20, op := Op.move (Operand.tmp 0), type := 71, pos := "lane.go:88", after := #[{ on := 2, ground := Ground.guard }], guard := some (2, false) }) (v := undef) rfl (by kernel_rfl) (by kernel_rfl) (by kernel_rfl) (fun _ _ _ h => h) ?hy28 (by assumption) ?rest28
      case hy28 => (exact Or.inr ⟨by rfl, rfl⟩)
      try simp only [Act.put, List.setIfInBounds_toArray, List.set_cons_zero, List.set_cons_succ]
      refine wpAnyH_take (i := 4) (oi := { dst := some 21, op := Op.nilCheck (Operand.tmp 20), type := 0, pos := "lane.go:88", after := #[{ on := 3, ground := Ground.data }, { on := 2, ground := Ground.guard }], guard := some (2, false) }) (v := undef) rfl (by kernel_rfl) (by kernel_rfl) (by kernel_rfl) (fun _ _ _ h => h) ?hy29 (by assumption) ?rest29
      case hy29 => (exact Or.inr ⟨by rfl, rfl⟩)
      try simp only [Act.put, List.setIfInBounds_toArray, List.set_cons_zero, List.set_cons_succ]
      refine wpAnyH_take (i := 5) (oi := { dst := some 22, op := Op.fieldAddr 84 (Operand.tmp 21) 1, type := 0, pos := "lane.go:88", after := #[{ on := 4, ground := Ground.data }, { on := 2, ground := Ground.guard }], guard := some (2, false) }) (v := undef) rfl (by kernel_rfl) (by kernel_rfl) (by kernel_rfl) (fun _ _ _ h => h) ?hy30 (by assumption) ?rest30
      case hy30 => (exact Or.inr ⟨by rfl, rfl⟩)
      try simp only [Act.put, List.setIfInBounds_toArray, List.set_cons_zero, List.set_cons_succ]
      refine wpAnyH_take (i := 6) (oi := { dst := some 23, op := Op.load 4 (Operand.tmp 22), type := 4, pos := "lane.go:88", after := #[{ on := 5, ground := Ground.data }, { on := 2, ground := Ground.guard }], guard := some (2, false) }) (v := undef) rfl (by kernel_rfl) (by kernel_rfl) (by kernel_rfl) (fun _ _ _ h => h) ?hy31 (by assumption) ?rest31
      case hy31 => (exact Or.inr ⟨by rfl, rfl⟩)
      try simp only [Act.put, List.setIfInBounds_toArray, List.set_cons_zero, List.set_cons_succ]
      refine wpAnyH_take (i := 7) (oi := { dst := some 24, op := Op.fieldAddr 106 (Operand.tmp 3) 1, type := 0, pos := "lane.go:88", after := #[{ on := 2, ground := Ground.guard }], guard := some (2, false) }) (v := undef) rfl (by kernel_rfl) (by kernel_rfl) (by kernel_rfl) (fun _ _ _ h => h) ?hy32 (by assumption) ?rest32
      case hy32 => (exact Or.inr ⟨by rfl, rfl⟩)
      try simp only [Act.put, List.setIfInBounds_toArray, List.set_cons_zero, List.set_cons_succ]
      refine wpAnyH_take (i := 8) (oi := { dst := some 25, op := Op.load 4 (Operand.tmp 24), type := 4, pos := "lane.go:88", after := #[{ on := 7, ground := Ground.data }, { on := 2, ground := Ground.guard }], guard := some (2, false) }) (v := undef) rfl (by kernel_rfl) (by kernel_rfl) (by kernel_rfl) (fun _ _ _ h => h) ?hy33 (by assumption) ?rest33
      case hy33 => (exact Or.inr ⟨by rfl, rfl⟩)
      try simp only [Act.put, List.setIfInBounds_toArray, List.set_cons_zero, List.set_cons_succ]
      refine wpAnyH_take (i := 9) (oi := { dst := some 26, op := Op.call { callee := Callee.value (Operand.func 65), args := #[Operand.tmp 23, Operand.tmp 25], argTypes := #[4, 4] }, type := 4, pos := "lane.go:88", after := #[{ on := 6, ground := Ground.data }, { on := 8, ground := Ground.data }, { on := 2, ground := Ground.chain }, { on := 2, ground := Ground.guard }], guard := some (2, false) }) (v := undef) rfl (by kernel_rfl) (by kernel_rfl) (by kernel_rfl) (fun _ _ _ h => h) ?hy34 (by assumption) ?rest34
      case hy34 => (exact Or.inr ⟨by rfl, rfl⟩)
      try simp only [Act.put, List.setIfInBounds_toArray, List.set_cons_zero, List.set_cons_succ]
      refine wpAnyH_take (i := 10) (oi := { dst := some 27, op := Op.pick (Operand.tmp 19) (Operand.const (Value.bool true)) (Operand.tmp 26), type := 4, pos := "lane.go:88", after := #[{ on := 2, ground := Ground.data }, { on := 9, ground := Ground.data }], guard := none }) (v := (.bool true)) rfl (by kernel_rfl) (by kernel_rfl) (by kernel_rfl) (fun _ _ _ h => h) ?hy35 (by assumption) ?rest35
      case hy35 => ((refine Or.inl ⟨by rfl, ?_⟩; intro W hSw; (try dsimp only at hSw); go_simp; (first | done | with_reducible rfl | omega | simp_all)))
      try simp only [Act.put, List.setIfInBounds_toArray, List.set_cons_zero, List.set_cons_succ]
      refine wpAnyH_take (i := 11) (oi := { dst := some 4, op := Op.assign (Operand.tmp 27), type := 4, pos := "lane.go:88", after := #[{ on := 10, ground := Ground.data }, { on := 9, ground := Ground.chain }, { on := 0, ground := Ground.phase }, { on := 1, ground := Ground.phase }, { on := 2, ground := Ground.phase }, { on := 3, ground := Ground.phase }, { on := 4, ground := Ground.phase }, { on := 5, ground := Ground.phase }, { on := 6, ground := Ground.phase }, { on := 7, ground := Ground.phase }, { on := 8, ground := Ground.phase }, { on := 9, ground := Ground.phase }, { on := 10, ground := Ground.phase }], guard := none }) (v := ?vv36) rfl (by kernel_rfl) (by kernel_rfl) (by kernel_rfl) (fun _ _ _ h => h) ?hy36 (by assumption) ?rest36
      case hy36 => (refine Or.inl ⟨by rfl, ?_⟩; intro W hSw; (try dsimp only at hSw); go_simp; (try with_reducible rfl))
      try simp only [Act.put, List.setIfInBounds_toArray, List.set_cons_zero, List.set_cons_succ]
      refine wpAnyH_done (by kernel_rfl) ?_ _
      go_wp2_with fail
      refine bodyPost_ret (v := .bool true) (by simp [results, Tryz.results70, go_sem]) rfl ⟨by rw [HZ.out], below_drew HB2.out⟩
    · have HZ : Hid (letsP l c = togP l.mine c.mine) := Lib.hid (by unfold letsP; rw [HFE.out, decide_eq_false hn0]; rfl)
      have hnb : ((n : Int) == 0) = false := by rw [beq_eq_false_iff_ne]; omega
      clear hn0
      go_wp2_with fail
      refine wp_region_held_drew (S := fun W => W.cell? ⟨b, 1, none⟩ = some (.bool l.mine) ∧ W.cell? ⟨w.heap.size, 1, none⟩ = some (.bool c.mine)) (by kernel_rfl) ⟨HK2.out.1, HK2.out.2⟩ (fun hHeld => ?_)
      refine wpAnyH_take (i := 0) (oi := { dst := some 17, op := Op.move (Operand.tmp 5), type := 3, pos := "lane.go:88", after := #[], guard := none }) (v := ?vv37) rfl (by kernel_rfl) (by kernel_rfl) (by kernel_rfl) (fun _ _ _ h => h) ?hy37 (by assumption) ?rest37
      case hy37 => (refine Or.inl ⟨by rfl, ?_⟩; intro W hSw; (try dsimp only at hSw); go_simp; (try with_reducible rfl))
      try simp only [Act.put, List.setIfInBounds_toArray, List.set_cons_zero, List.set_cons_succ]
      refine wpAnyH_take (i := 1) (oi := { dst := some 18, op := Op.binOp BinOp.eql 3 (Operand.tmp 17) (Operand.const (Value.int IntKind.i64 0)) 3, type := 4, pos := "lane.go:88", after := #[{ on := 0, ground := Ground.data }], guard := none }) (v := (.bool false)) rfl (by kernel_rfl) (by kernel_rfl) (by kernel_rfl) (fun _ _ _ h => h) ?hy38 (by assumption) ?rest38
      case hy38 => ((refine Or.inl ⟨by rfl, ?_⟩; intro W hSw; (try dsimp only at hSw); go_simp; (first | done | with_reducible rfl | omega | simp_all)))
      try simp only [Act.put, List.setIfInBounds_toArray, List.set_cons_zero, List.set_cons_succ]
      refine wpAnyH_take (i := 2) (oi := { dst := some 19, op := Op.move (Operand.tmp 18), type := 4, pos := "lane.go:88", after := #[{ on := 1, ground := Ground.data }], guard := none }) (v := ?vv39) rfl (by kernel_rfl) (by kernel_rfl) (by kernel_rfl) (fun _ _ _ h => h) ?hy39 (by assumption) ?rest39
      case hy39 => (refine Or.inl ⟨by rfl, ?_⟩; intro W hSw; (try dsimp only at hSw); go_simp; (try with_reducible rfl))
      try simp only [Act.put, List.setIfInBounds_toArray, List.set_cons_zero, List.set_cons_succ]
      refine wpAnyH_take (i := 3) (oi := { dst := some 20, op := Op.move (Operand.tmp 0), type := 71, pos := "lane.go:88", after := #[{ on := 2, ground := Ground.guard }], guard := some (2, false) }) (v := ?vv40) rfl (by kernel_rfl) (by kernel_rfl) (by kernel_rfl) (fun _ _ _ h => h) ?hy40 (by assumption) ?rest40
      case hy40 => (refine Or.inl ⟨by rfl, ?_⟩; intro W hSw; (try dsimp only at hSw); go_simp; (try with_reducible rfl))
      try simp only [Act.put, List.setIfInBounds_toArray, List.set_cons_zero, List.set_cons_succ]
      refine wpAnyH_take (i := 4) (oi := { dst := some 21, op := Op.nilCheck (Operand.tmp 20), type := 0, pos := "lane.go:88", after := #[{ on := 3, ground := Ground.data }, { on := 2, ground := Ground.guard }], guard := some (2, false) }) (v := ?vv41) rfl (by kernel_rfl) (by kernel_rfl) (by kernel_rfl) (fun _ _ _ h => h) ?hy41 (by assumption) ?rest41
      case hy41 => (refine Or.inl ⟨by rfl, ?_⟩; intro W hSw; (try dsimp only at hSw); go_simp; (try with_reducible rfl))
      try simp only [Act.put, List.setIfInBounds_toArray, List.set_cons_zero, List.set_cons_succ]
      refine wpAnyH_take (i := 5) (oi := { dst := some 22, op := Op.fieldAddr 84 (Operand.tmp 21) 1, type := 0, pos := "lane.go:88", after := #[{ on := 4, ground := Ground.data }, { on := 2, ground := Ground.guard }], guard := some (2, false) }) (v := ?vv42) rfl (by kernel_rfl) (by kernel_rfl) (by kernel_rfl) (fun _ _ _ h => h) ?hy42 (by assumption) ?rest42
      case hy42 => (refine Or.inl ⟨by rfl, ?_⟩; intro W hSw; (try dsimp only at hSw); go_simp; (try with_reducible rfl))
      try simp only [Act.put, List.setIfInBounds_toArray, List.set_cons_zero, List.set_cons_succ]
      refine wpAnyH_take (i := 6) (oi := { dst := some 23, op := Op.load 4 (Operand.tmp 22), type := 4, pos := "lane.go:88", after := #[{ on := 5, ground := Ground.data }, { on := 2, ground := Ground.guard }], guard := some (2, false) }) (v := ?vv43) rfl (by kernel_rfl) (by kernel_rfl) (by kernel_rfl) (fun _ _ _ h => h) ?hy43 (by assumption) ?rest43
      case hy43 => (refine Or.inl ⟨by rfl, ?_⟩; intro W hSw; (try dsimp only at hSw); go_simp; (try with_reducible rfl))
      try simp only [Act.put, List.setIfInBounds_toArray, List.set_cons_zero, List.set_cons_succ]
      refine wpAnyH_take (i := 7) (oi := { dst := some 24, op := Op.fieldAddr 106 (Operand.tmp 3) 1, type := 0, pos := "lane.go:88", after := #[{ on := 2, ground := Ground.guard }], guard := some (2, false) }) (v := ?vv44) rfl (by kernel_rfl) (by kernel_rfl) (by kernel_rfl) (fun _ _ _ h => h) ?hy44 (by assumption) ?rest44
      case hy44 => (refine Or.inl ⟨by rfl, ?_⟩; intro W hSw; (try dsimp only at hSw); go_simp; (try with_reducible rfl))
      try simp only [Act.put, List.setIfInBounds_toArray, List.set_cons_zero, List.set_cons_succ]
      refine wpAnyH_take (i := 8) (oi := { dst := some 25, op := Op.load 4 (Operand.tmp 24), type := 4, pos := "lane.go:88", after := #[{ on := 7, ground := Ground.data }, { on := 2, ground := Ground.guard }], guard := some (2, false) }) (v := ?vv45) rfl (by kernel_rfl) (by kernel_rfl) (by kernel_rfl) (fun _ _ _ h => h) ?hy45 (by assumption) ?rest45
      case hy45 => (refine Or.inl ⟨by rfl, ?_⟩; intro W hSw; (try dsimp only at hSw); go_simp; (try with_reducible rfl))
      try simp only [Act.put, List.setIfInBounds_toArray, List.set_cons_zero, List.set_cons_succ]
      refine wpAnyH_ready (rs := [9]) (by kernel_rfl) (by simp) ?_
      refine AllReadyH.cons (o := { dst := some 26, op := Op.call { callee := Callee.value (Operand.func 65), args := #[Operand.tmp 23, Operand.tmp 25], argTypes := #[4, 4] }, type := 4, pos := "lane.go:88", after := #[{ on := 6, ground := Ground.data }, { on := 8, ground := Ground.data }, { on := 2, ground := Ground.chain }, { on := 2, ground := Ground.guard }], guard := some (2, false) }) rfl (fun K hK => ?step46) ?more46
      case more46 => exact AllReadyH.nil
      ((go_simp; go_at_call 65; refine (together_any _ _ _).mono ?_; rintro e w3 ⟨rfl, rfl⟩; go_wp2_with fail))
      refine hK.out _ _ ?hS46 (fun hHeld => ?rr46)
      case hS46 => (exact ⟨HK2.out.1, HK2.out.2⟩)
      clear hK K
      try simp only [Act.put, List.setIfInBounds_toArray, List.set_cons_zero, List.set_cons_succ]
      refine wpAnyH_take (i := 10) (oi := { dst := some 27, op := Op.pick (Operand.tmp 19) (Operand.const (Value.bool true)) (Operand.tmp 26), type := 4, pos := "lane.go:88", after := #[{ on := 2, ground := Ground.data }, { on := 9, ground := Ground.data }], guard := none }) (v := (.bool (togP l.mine c.mine))) rfl (by kernel_rfl) (by kernel_rfl) (by kernel_rfl) (fun _ _ _ h => h) ?hy47 (by assumption) ?rest47
      case hy47 => ((refine Or.inl ⟨by rfl, ?_⟩; intro W hSw; (try dsimp only at hSw); go_simp; (first | done | with_reducible rfl | omega | simp_all)))
      try simp only [Act.put, List.setIfInBounds_toArray, List.set_cons_zero, List.set_cons_succ]
      refine wpAnyH_take (i := 11) (oi := { dst := some 4, op := Op.assign (Operand.tmp 27), type := 4, pos := "lane.go:88", after := #[{ on := 10, ground := Ground.data }, { on := 9, ground := Ground.chain }, { on := 0, ground := Ground.phase }, { on := 1, ground := Ground.phase }, { on := 2, ground := Ground.phase }, { on := 3, ground := Ground.phase }, { on := 4, ground := Ground.phase }, { on := 5, ground := Ground.phase }, { on := 6, ground := Ground.phase }, { on := 7, ground := Ground.phase }, { on := 8, ground := Ground.phase }, { on := 9, ground := Ground.phase }, { on := 10, ground := Ground.phase }], guard := none }) (v := ?vv48) rfl (by kernel_rfl) (by kernel_rfl) (by kernel_rfl) (fun _ _ _ h => h) ?hy48 (by assumption) ?rest48
      case hy48 => (refine Or.inl ⟨by rfl, ?_⟩; intro W hSw; (try dsimp only at hSw); go_simp; (try with_reducible rfl))
      try simp only [Act.put, List.setIfInBounds_toArray, List.set_cons_zero, List.set_cons_succ]
      refine wpAnyH_done (by kernel_rfl) ?_ _
      go_wp2_with fail
      refine bodyPost_ret (v := .bool (togP l.mine c.mine)) (by simp [results, Tryz.results70, go_sem]) rfl ⟨by rw [HZ.out], below_drew HB2.out⟩
end Go.Proofs.YtmchmlkbpocboaaGreatDoor
