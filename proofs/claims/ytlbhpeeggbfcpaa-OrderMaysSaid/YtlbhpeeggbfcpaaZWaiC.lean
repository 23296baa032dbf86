/- Graphs of package wait: graphOf. -/
import Derived.Test.YtlbhpeeggbfcpaaZWaiA
import Derived.Test.YtlbhpeeggbfcpaaZWaiS
import Derived.Deep.RegionLaw
import Derived.Deep.CutBlock
import Derived.Deep.DeepCutAuto
import Derived.Deep.RegionHeld
import Derived.Lib.Hide
set_option linter.unusedSimpArgs false
set_option linter.unusedVariables false
set_option linter.unnecessarySimpa false
namespace Go.Proofs.Ytlbhpeeggbfcpaa
open Go.RowKit
open Go.Maps (Keyed)

theorem snoc_ind {α : Type} {p : List α → Prop} (l : List α) (nil : p []) (snoc : ∀ l a, p l → p (l ++ [a])) : p l := by
  have : ∀ r : List α, p r.reverse := fun r => by
    induction r with
    | nil => exact nil
    | cons a r ih => rw [List.reverse_cons]; exact snoc _ _ ih
  simpa using this l.reverse
theorem find_hd (e : Int × List Int) (G : Gr) (y : Int) : List.find? (fun z => z.1 == y) (e :: G) = if e.1 = y then some e else List.find? (fun z => z.1 == y) G := by
  rw [List.find?_cons]
  by_cases h : e.1 = y
  · simp [h]
  · have : (e.1 == y) = false := by simpa using h
    simp [h, this]
theorem at_setK (G : Gr) (x y : Int) (l : List Int) : at_ (setK G x l) y = if hasK G x = true ∧ y = x then l else at_ G y := by
  unfold at_ setK hasK
  induction G with
  | nil => simp
  | cons e G ih =>
    rw [List.map_cons, List.any_cons, find_hd, find_hd]
    by_cases h1 : e.1 = x
    · rw [if_pos h1]
      by_cases h2 : e.1 = y
      · rw [if_pos h2, if_pos h2]
        simp [h1, h2.symm.trans h1]
      · rw [if_neg h2, if_neg h2, ih]
        have : y ≠ x := fun h => h2 (h1.trans h.symm)
        simp [this]
    · rw [if_neg h1]
      have hx : (e.1 == x) = false := by simpa using h1
      by_cases h2 : e.1 = y
      · have : y ≠ x := fun h => h1 (h2.trans h)
        rw [if_pos h2, if_pos h2]
        simp [this]
      · rw [if_neg h2, if_neg h2, ih, hx, Bool.false_or]
theorem at_none {G : Gr} {x : Int} (h : hasK G x = false) : at_ G x = [] := by
  unfold at_
  rw [List.find?_eq_none.2 (fun y hy => by
    unfold hasK at h
    rw [List.any_eq_false] at h
    exact h y hy)]
  rfl
theorem at_snoc (G : Gr) (x y : Int) (l : List Int) (h : hasK G x = false) : at_ (G ++ [(x, l)]) y = if y = x then l else at_ G y := by
  by_cases hy : y = x
  · subst hy
    rw [if_pos rfl]
    unfold at_
    rw [List.find?_append, List.find?_eq_none.2 (fun z hz => by
      unfold hasK at h
      rw [List.any_eq_false] at h
      exact h z hz)]
    simp
  · rw [if_neg hy]
    unfold at_
    rw [List.find?_append]
    have : List.find? (fun e : Int × List Int => e.1 == y) [(x, l)] = none := by
      rw [find_hd, if_neg (fun e : x = y => hy e.symm)]
      rfl
    rw [this, Option.or_none]
theorem at_putK (G : Gr) (x y : Int) (l : List Int) : at_ (putK G x l) y = if y = x then l else at_ G y := by
  unfold putK
  by_cases h : hasK G x = true
  · rw [if_pos h, at_setK]
    simp [h]
  · rw [if_neg h, at_snoc _ _ _ _ (by simpa using h)]
theorem at_addE (G : Gr) (e : Int × Int) (y : Int) : at_ (addE G e) y = if y = e.1 then at_ G e.1 ++ [e.2] else at_ G y := by
  unfold addE
  split
  · rw [at_putK]
  · next h =>
    rw [at_snoc _ _ _ _ (by simpa using h), at_putK]
    by_cases h2 : y = e.2
    · subst h2
      rw [if_pos rfl]
      have := at_none (G := putK G e.1 (at_ G e.1 ++ [e.2])) (x := e.2) (by simpa using h)
      rw [at_putK] at this
      rw [this]
    · rw [if_neg h2]
theorem graph0_snoc (l : List (Int × Int)) (e : Int × Int) : graph0 (l ++ [e]) = addE (graph0 l) e := by unfold graph0; rw [List.foldl_append]; rfl
theorem at_graph0 (l : List (Int × Int)) (y : Int) : at_ (graph0 l) y = (l.filter (fun e => e.1 == y)).map (·.2) := by
  refine snoc_ind (p := fun l => at_ (graph0 l) y = (l.filter (fun e => e.1 == y)).map (·.2)) l rfl (fun l e ih => ?_)
  · show at_ (graph0 (l ++ [e])) y = _
    rw [graph0_snoc, at_addE, List.filter_append, List.map_append, ← ih]
    by_cases h : y = e.1
    · subst h; simp
    · rw [if_neg h]
      have : (e.1 == y) = false := by simpa using fun h' : e.1 = y => h h'.symm
      simp [List.filter_cons, this]
theorem at_graph0_len (l : List (Int × Int)) (y : Int) : (at_ (graph0 l) y).length ≤ l.length := by
  rw [at_graph0, List.length_map]
  exact List.length_filter_le _ _
theorem key_putK {G : Gr} {x : Int} {l : List Int} : ∀ y ∈ putK G x l, y.1 = x ∨ ∃ z ∈ G, y.1 = z.1 := by
  intro y hy
  unfold putK at hy
  split at hy
  · unfold setK at hy
    obtain ⟨z, hz, rfl⟩ := List.mem_map.1 hy
    right
    refine ⟨z, hz, ?_⟩
    split <;> rfl
  · rcases List.mem_append.1 hy with h | h
    · exact .inr ⟨y, h, rfl⟩
    · rw [List.mem_singleton] at h
      subst h
      exact .inl rfl
theorem key_graph0 (l : List (Int × Int)) : ∀ y ∈ graph0 l, ∃ e ∈ l, y.1 = e.1 ∨ y.1 = e.2 := by
  refine snoc_ind (p := fun l => ∀ y ∈ graph0 l, ∃ e ∈ l, y.1 = e.1 ∨ y.1 = e.2) l (fun y hy => by cases hy) (fun l e ih y hy => ?_)
  have up : ∀ z ∈ graph0 l, y.1 = z.1 → ∃ e' ∈ l ++ [e], y.1 = e'.1 ∨ y.1 = e'.2 := fun z hz h => by
    obtain ⟨e', h1, h2⟩ := ih z hz
    exact ⟨e', List.mem_append_left _ h1, by rw [h]; exact h2⟩
  have put : y ∈ putK (graph0 l) e.1 (at_ (graph0 l) e.1 ++ [e.2]) → ∃ e' ∈ l ++ [e], y.1 = e'.1 ∨ y.1 = e'.2 := fun hy => by
    rcases key_putK y hy with h | ⟨z, hz, h⟩
    · exact ⟨e, by simp, .inl h⟩
    · exact up z hz h
  rw [graph0_snoc] at hy
  unfold addE at hy
  split at hy
  · exact put hy
  · rcases List.mem_append.1 hy with h | h
    · exact put h
    · rw [List.mem_singleton] at h
      subst h
      exact ⟨e, by simp, .inr rfl⟩
theorem info3 : (Try.prog.info? 3).map (fun i => (i.zero, i.size, i.bytes)) = some (some (.int .i64 0), 1, 8) := by kernel_rfl
theorem one_new (W : World) (n : Nat) (hn : W.heap.size = n) (t : TypeId) (c0 : Value) : ∀ (j : Nat) (u : Value), [c0][j]? = some u → (W.alloc (.cells #[c0] t)).cell? ((⟨n, 0, none⟩ : Addr).add j) = some u := by
  intro j u h
  subst hn
  rw [add0, cell_of_row _ _ _ _ _ _ (heap_alloc_new W _)]
  simpa using h
theorem src_int {w : World} (x : Int) : Src Try.prog 1 30 (.slice (some ⟨w.heap.size, 0, none⟩) 1 1) 1 [.int .i64 x] (w.alloc (.cells #[.int .i64 x] 3)) :=
  Src.ofSlice _ Try.underlying30 ⟨w.heap.size, 0, none⟩ 1 1 [.int .i64 x] rfl (one_new _ _ rfl _ _) (by simp [Value.oneCell'])
/-- An int is put at the end of a row of ints. -/
theorem app_int {w : World} {v : Value} {l : List Int} (x : Int) (ty : TypeId) (h : RowIs w 1 v l.length (ints l)) (hl : l.length ≤ 16777000) : ∃ v' w', (Builtin.append_ #[30, 30] ty #[v, .slice (some ⟨w.heap.size, 0, none⟩) 1 1]).run Try.prog (w.alloc (.cells #[.int .i64 x] 3)) = .ok v' w' ∧ RowIs w' 1 v' (l ++ [x]).length (ints (l ++ [x])) ∧ Touch (fun k => v.ownBlock = some k) w w' ∧ (∀ k, v'.ownBlock = some k → v.ownBlock = some k ∨ w.heap.size ≤ k) := by
  have hb := below_new (w := w) (.cells #[.int .i64 x] 3)
  obtain ⟨v', w', hr, h2, h3, h4⟩ := run_append_row (w.alloc (.cells #[.int .i64 x] 3)) 30 3 ty 30 Try.underlying30 info3 rfl (by omega) (by omega) v l.length 1 (ints l) [.int .i64 x] _ (h.below hb) (src_int x) (by omega)
  refine ⟨v', w', hr, by rw [List.length_append, ints_snoc]; exact h2, (Touch.of_below hb).grown h3 (fun k hk _ => hk), fun k hk => ?_⟩
  rcases h4 with e | e
  · exact .inl (e ▸ hk)
  · right
    rw [e] at hk
    have := Option.some.inj hk
    rw [asz] at this
    omega
theorem yieldsIf_look {P : Program} {ops : Array Oper} {S : World → Prop} {o : Oper} {a : Act} {M : TypeId} {m x v : Value} {c : Bool} (hgd : o.guard = none) (mo xo : Operand) (ho : o.op = Op.lookup M mo xo c) (hm : a.eval mo = m) (hx : a.eval xo = x) (hrun : ∀ W, S W → (Instr.lookup M m x c).run P W = .ok v W) : YieldsIf P ops S o v a :=
  .inl ⟨by simp [Region.wanted, hgd], fun w hw => by
    unfold execOp
    simp only [ho, hm, hx, Sem.run_bind, Sem.run_pure, hrun w hw, Result.andThen]⟩
theorem wpList_look_run {P : Program} {w : World} {ops : Array Oper} {rest : List Oper} {o : Oper} {a : Act} {Q : Exit → Act → World → Prop} (hg : o.guard = none) (m x : Operand) (M : TypeId) (c : Bool) (hop : o.op = Op.lookup M m x c) {mv xv v : Value} (hm : a.eval m = mv) (hx : a.eval x = xv) (hrun : (Instr.lookup M mv xv c).run P w = .ok v w) (hK : wpList P ops Q rest (a.put o.dst v) w) : wpList P ops Q (o :: rest) a w := by
  refine wpList_plain hg fun K' hK' => ?_
  unfold Oper.wp
  simp only [execOp, hop, hm, hx, Sem.run_bind, Sem.run_pure, hrun, Result.andThen]
  exact hK' _ _ hK
theorem wpList_put_run {P : Program} {w w' : World} {ops : Array Oper} {rest : List Oper} {o : Oper} {a : Act} {Q : Exit → Act → World → Prop} (hg : o.guard = none) (m x y : Operand) (M : TypeId) (hop : o.op = Op.mapUpdate M m x y) {mv xv yv : Value} (hm : a.eval m = mv) (hx : a.eval x = xv) (hy : a.eval y = yv) (hrun : (Instr.mapUpdate M mv xv yv).run P w = .ok () w') (hK : wpList P ops Q rest (a.put o.dst undef) w') : wpList P ops Q (o :: rest) a w := by
  refine wpList_plain hg fun K' hK' => ?_
  unfold Oper.wp
  simp only [execOp, hop, hm, hx, hy, Sem.run_bind, hrun, Result.andThen]
  exact hK' _ _ hK
/-- A list of numbers, rising, each once. -/
def rises (l : List Int) : List Int := Lib.compact (sorted l)
def graphR (l : List (Int × Int)) : Gr := (graph0 l).map fun e => (e.1, rises e.2)
/-- A graph, of which those lists are rising that have been seen. -/
def mixG (bs : List Nat) (seen : Array Nat) (G : Gr) : Gr := List.zipWith (fun b e => if b ∈ seen then (e.1, rises e.2) else e) bs G
theorem set_same {α : Type} {l : List α} {j : Nat} {a : α} (h : l[j]? = some a) : l.set j a = l := by
  apply List.ext_getElem?
  intro i
  rw [List.getElem?_set]
  by_cases hij : j = i
  · subst hij
    rw [if_pos rfl, if_pos (List.getElem?_eq_some_iff.1 h).1, h]
  · rw [if_neg hij]
theorem mixG_get {bs : List Nat} {G : Gr} (hl : bs.length = G.length) (seen : Array Nat) (i : Nat) {b : Nat} {e : Int × List Int} (hb : bs[i]? = some b) (he : G[i]? = some e) : (mixG bs seen G)[i]? = some (if b ∈ seen then (e.1, rises e.2) else e) := by
  unfold mixG
  rw [List.getElem?_zipWith, hb, he]
theorem mixG_len {bs : List Nat} {G : Gr} (hl : bs.length = G.length) (seen : Array Nat) : (mixG bs seen G).length = G.length := by
  unfold mixG
  rw [List.length_zipWith]
  omega
theorem mixG_ext {bs : List Nat} {G H : Gr} (hl : bs.length = G.length) (hH : H.length = G.length) {seen : Array Nat} (h : ∀ (i b : Nat) (e : Int × List Int), bs[i]? = some b → G[i]? = some e → H[i]? = some (if b ∈ seen then (e.1, rises e.2) else e)) : mixG bs seen G = H := by
  apply List.ext_getElem?
  intro i
  by_cases hi : i < G.length
  · have h1 : G[i]? = some G[i] := List.getElem?_eq_getElem hi
    have h2 : bs[i]? = some (bs[i]'(by omega)) := List.getElem?_eq_getElem _
    rw [mixG_get hl seen i h2 h1, h i _ _ h2 h1]
  · rw [List.getElem?_eq_none (by rw [mixG_len hl]; omega), List.getElem?_eq_none (by omega)]
theorem mixG_none {bs : List Nat} {G : Gr} (hl : bs.length = G.length) : mixG bs #[] G = G :=
  mixG_ext hl rfl fun i b e hb he => by rw [he]; simp
theorem mixG_all {bs : List Nat} {G : Gr} (hl : bs.length = G.length) {seen : Array Nat} (h : ∀ b ∈ bs, b ∈ seen) : mixG bs seen G = G.map fun e => (e.1, rises e.2) :=
  mixG_ext hl (List.length_map _) fun i b e hb he => by rw [List.getElem?_map, he, if_pos (h b (List.mem_of_getElem? hb))]; rfl
theorem mixG_push {bs : List Nat} {G : Gr} (hl : bs.length = G.length) (hn : bs.Nodup) {seen : Array Nat} {j b : Nat} {x : Int} {l : List Int} (hb : bs[j]? = some b) (hj : G[j]? = some (x, l)) : mixG bs (seen.push b) G = (mixG bs seen G).set j (x, rises l) :=
  mixG_ext hl (by rw [List.length_set, mixG_len hl]) fun i c e hc he => by
    rw [List.getElem?_set]
    by_cases hij : j = i
    · subst hij
      rw [hb] at hc
      rw [hj] at he
      obtain rfl := Option.some.inj hc
      obtain rfl := Option.some.inj he
      rw [if_pos rfl, if_pos (by rw [mixG_len hl]; exact (List.getElem?_eq_some_iff.1 hj).1)]
      simp
    · rw [if_neg hij, mixG_get hl seen i hc he]
      have hne : c ≠ b := fun e' => by
        subst e'
        exact hij ((List.getElem?_inj (List.getElem?_eq_some_iff.1 hb).1 hn).1 (hb.trans hc.symm))
      simp [hne]
section
variable {P : Program} {K E M : TypeId} {w : World} {b0 g clock : Nat} {G : Gr} {L : List MapEntry}
theorem GAt.set (h : GAt P K w b0 g G L clock) (KK : Keyed P K) (hM : P.underlying M = some (.map K E)) {x : Int} (hx : keyOf P K (.int .i64 x) = some (.int .i64 x)) {j : Nat} {e : MapEntry} {l l' : List Int} (hj : L[j]? = some e) (hg : G[j]? = some (x, l)) {w1 : World} {v : Value} (ht : Touch (fun k => e.val.ownBlock = some k) w w1) (hv : RowIs w1 1 v l'.length (ints l')) (hb : v.ownBlock = e.val.ownBlock) (hb0 : b0 ≤ w.heap.size) :
    ∃ w2, (Instr.mapUpdate M (.map (some g)) (.int .i64 x) v).run P w1 = .ok () w2 ∧ GAt P K w2 b0 g (G.set j (x, l')) (L.set j { e with val := v }) clock ∧ Touch (fun k => k = g) w1 w2 := by
  have he := (h.each j e _ hj hg).1
  obtain ⟨r1, r2⟩ := h.put_hit KK hM hx hj he hg ht.size (fun k hk hne => ht.block k hk hne) hv (fun k e' => .inl (hb ▸ e')) hb0
  refine ⟨_, r1, ?_, (Touch.refl (fun k => k = g) w1).set g _ (fun _ => rfl)⟩
  have hpk : putK G x l' = G.set j (x, l') := by unfold putK; rw [if_pos (at_hit h.nodup hg).2, setK_set h.nodup hg]
  rw [← hpk]
  exact r2
end
theorem GAt.touch {P : Program} {K : TypeId} {w w' : World} {b0 g clock : Nat} {G : Gr} {L : List MapEntry} {S : Nat → Prop} (h : GAt P K w b0 g G L clock) (ht : Touch S w w') (hg : ¬ S g) (ho : ∀ e ∈ L, ∀ k, e.val.ownBlock = some k → ¬ S k) : GAt P K w' b0 g G L clock :=
  ⟨h.map.keep (ht.block g h.map.lt hg), h.len, fun i e x h1 h2 => ⟨(h.each i e x h1 h2).1, (h.each i e x h1 h2).2.touch ht (fun k hk => ho e (List.mem_of_getElem? h1) k hk)⟩, h.own, h.apart, h.gb⟩
/-- What the second loop holds. -/
def SecI (w0 : World) (g it : Nat) (bs : List Nat) (G0 : Gr) (clock : Nat) (seen : Array Nat) (w : World) : Prop :=
  ∃ L, GAt Try.prog 3 w w0.heap.size g (mixG bs seen G0) L clock ∧ L.map (·.born) = bs ∧ IterAt w it (some g) clock seen ∧ (∀ e ∈ L, ∀ k, e.val.ownBlock = some k → k < it) ∧ Below w0.heap.size w0 w
set_option maxRecDepth 100000 in
set_option maxHeartbeats 2000000 in
theorem graph_any {w : World} {v : Value} {l : List (Int × Int)} (h : EIs w v l) (hr : ∀ e ∈ l, InR64 e.1 ∧ InR64 e.2) (hl : l.length ≤ 1000) : Calls Try.prog 26 #[v] w fun e w' => ∃ g L clock, e = .returned (.map (some g)) ∧ GAt Try.prog 3 w' w.heap.size g (graphR l) L clock ∧ Below w.heap.size w w' := by
  have HE := Lib.hid h
  have HR := Lib.hid hr
  obtain ⟨A, cap, rfl, h1, h2, _⟩ := h
  unfold maxLen at h2
  have hl' : (l.length : Int) ≤ 1000 := by omega
  have HM0 := Lib.hid (GAt.made Try.prog 3 w (Nat.le_refl _))
  have HB0 := Lib.hid (below_new (w := w) (.map #[] 0))
  have hmm := @run_makeMap Try.prog
  clear hr
  go_enter Try.func26, Try.ntmps26
  go_wp2_with fail
  clear hmm
  go_loopw [13] (fun iv wr => ∃ (k : Nat) (L : List MapEntry) (clock : Nat), k ≤ l.length ∧ iv = .int .i64 k ∧ GAt Try.prog 3 wr w.heap.size w.heap.size (graph0 (l.take k)) L clock ∧ Below w.heap.size w wr) (fun iv _ => l.length - (intOf iv).toNat)
  case atStart => exact ⟨0, [], 0, Nat.zero_le _, rfl, HM0.out, HB0.out⟩
  case round =>
    obtain ⟨k, L, clock, hk, rfl, hg, hb⟩ := hrel
    have HG := Lib.hid hg
    have HB := Lib.hid hb
    clear hg hb
    by_cases hlt : k < l.length
    · have hx : l[k]? = some l[k] := List.getElem?_eq_getElem hlt
      have hin := HR.out _ (List.getElem_mem hlt)
      generalize l[k] = e at hx hin
      obtain ⟨A', cap', e', _, _, h3⟩ := HE.out.below HB.out
      injection e' with e1 _ e3
      subst e1 e3
      obtain ⟨a, rfl, ha, k0, k1⟩ := h3 k e hx
      obtain ⟨x, y⟩ := e
      have hi : (k : Int) < (l.length : Int) := by omega
      have HX := Lib.hid hx
      have HR2 := Lib.hid hin
      have HLT := Lib.hid hlt
      have k1' : wr.cell? ⟨(a.add (k * 2)).block, (a.add (k * 2)).off + 1, none⟩ = some (.int .i64 y) := k1
      clear h3 hx hk k1
      go_wp2_with fail
      obtain ⟨v0, hv0, hlk, hown0, hput⟩ := HG.out.bump keyedI Try.underlying66 zeroI (keyI hin.1) HB.out.size
      have hat := alloc_at wr (.cells #[.int .i64 x, .int .i64 y] 39)
      have s0 := cell_of hat 0
      have s1 := cell_of hat 1
      have hb9 := below_new (w := wr) (.cells #[.int .i64 x, .int .i64 y] 39)
      generalize hW : wr.alloc (.cells #[.int .i64 x, .int .i64 y] 39) = W9 at *
      have hlen : (at_ (graph0 (l.take k)) x).length ≤ 1000 := Nat.le_trans (at_graph0_len _ _) (by rw [List.length_take]; omega)
      have hD : Below wr.heap.size wr W9.drew := below_drew hb9
      have hDA : Below wr.heap.size wr (W9.drew.alloc (.cells #[.int .i64 y] 3)) := hD.trans ((below_new (w := W9.drew) _).mono hD.size)
      obtain ⟨v1, w1, hr1, hrow1, ht1, ho1⟩ := app_int (w := W9.drew) y 30 (hv0.below hD) (by omega)
      have hv1 : ∀ k, v1.ownBlock = some k → v0.ownBlock = some k ∨ wr.heap.size ≤ k := fun k hk => (ho1 k hk).imp id (fun h => by have := hD.size; omega)
      have ht1' : Touch (fun k => v0.ownBlock = some k) wr w1 := Touch.ahead hD ht1
      obtain ⟨w2, L2, clock2, hr2, hg2, ht2⟩ := hput w1 v1 _ ht1' hrow1 hv1
      have hblk : wr.heap.size < W9.heap.size := by rw [← hW, asz]; omega
      have hne0 : v0.ownBlock ≠ some wr.heap.size := fun e => by have := hv0.lt _ e; omega
      have hb1 : w1.heap[wr.heap.size]? = W9.heap[wr.heap.size]? := (ht1.block _ hblk hne0).trans rfl
      have hb2 : w2.heap[wr.heap.size]? = w1.heap[wr.heap.size]? := ht2.block _ (Nat.lt_of_lt_of_le hblk ht1.size) (fun e => by have := HG.out.map.lt; omega)
      have c1 : w1.cell? ⟨wr.heap.size, 0, none⟩ = some (.int .i64 x) ∧ w1.cell? ⟨wr.heap.size, 1, none⟩ = some (.int .i64 y) := ⟨(World.cell?_of_block (a := ⟨_, 0, none⟩) hb1).trans s0, (World.cell?_of_block (a := ⟨_, 1, none⟩) hb1).trans s1⟩
      have c2 : w2.cell? ⟨wr.heap.size, 0, none⟩ = some (.int .i64 x) ∧ w2.cell? ⟨wr.heap.size, 1, none⟩ = some (.int .i64 y) := ⟨(World.cell?_of_block (a := ⟨_, 0, none⟩) hb2).trans c1.1, (World.cell?_of_block (a := ⟨_, 1, none⟩) hb2).trans c1.2⟩
      have cA : (W9.drew.alloc (.cells #[.int .i64 y] 3)).cell? ⟨wr.heap.size, 0, none⟩ = some (.int .i64 x) ∧ (W9.drew.alloc (.cells #[.int .i64 y] 3)).cell? ⟨wr.heap.size, 1, none⟩ = some (.int .i64 y) := ⟨((below_new (w := W9.drew) _).cell (p := ⟨_, 0, none⟩) hblk).trans s0, ((below_new (w := W9.drew) _).cell (p := ⟨_, 1, none⟩) hblk).trans s1⟩
      have lk0 := (hlk _ hD).1
      have lkA := (hlk _ hDA).1
      have hbw2 : Below w.heap.size w w2 := HB.out.trans ((ht1'.below (fun i e => (hown0 i e).1) HB.out.size).trans (ht2.below (fun i e => Nat.le_of_eq e.symm) (Nat.le_trans HB.out.size ht1'.size)))
      go_cut [] from 17 to 27 (fun wx => ∃ L2 clock2, GAt Try.prog 3 wx w.heap.size w.heap.size (putK (graph0 (l.take k)) x (at_ (graph0 (l.take k)) x ++ [y])) L2 clock2 ∧ (wx.cell? ⟨wr.heap.size, 0, none⟩ = some (.int .i64 x) ∧ wx.cell? ⟨wr.heap.size, 1, none⟩ = some (.int .i64 y)) ∧ Below w.heap.size w wx)
      case first =>
        refine wp_region_held_drew (S := fun W => W.cell? ⟨wr.heap.size, 0, none⟩ = some (.int .i64 x) ∧ W.cell? ⟨wr.heap.size, 1, none⟩ = some (.int .i64 y)) (by kernel_rfl) ⟨s0, s1⟩ (fun hHeld => ?_)
        refine wpAnyH_take (i := 0) (oi := { dst := some 17, op := Op.move (Operand.tmp 3), type := 66, pos := "graph.go:17", after := #[], guard := none }) (v := ?vv1) rfl (by kernel_rfl) (by kernel_rfl) (by kernel_rfl) (fun _ _ _ h => h) ?hy1 (by assumption) ?rest1
        case hy1 => (refine Or.inl ⟨by rfl, ?_⟩; intro W hSw; (try dsimp only at hSw); go_simp; (try with_reducible rfl))
        try simp only [Act.put, List.setIfInBounds_toArray, List.set_cons_zero, List.set_cons_succ]
        refine wpAnyH_take (i := 1) (oi := { dst := some 18, op := Op.fieldAddr 39 (Operand.tmp 5) 0, type := 0, pos := "graph.go:17", after := #[], guard := none }) (v := ?vv2) rfl (by kernel_rfl) (by kernel_rfl) (by kernel_rfl) (fun _ _ _ h => h) ?hy2 (by assumption) ?rest2
        case hy2 => (refine Or.inl ⟨by rfl, ?_⟩; intro W hSw; (try dsimp only at hSw); go_simp; (try with_reducible rfl))
        try simp only [Act.put, List.setIfInBounds_toArray, List.set_cons_zero, List.set_cons_succ]
        refine wpAnyH_take (i := 2) (oi := { dst := some 19, op := Op.load 3 (Operand.tmp 18), type := 3, pos := "graph.go:17", after := #[{ on := 1, ground := Ground.data }], guard := none }) (v := ?vv3) rfl (by kernel_rfl) (by kernel_rfl) (by kernel_rfl) (fun _ _ _ h => h) ?hy3 (by assumption) ?rest3
        case hy3 => (refine Or.inl ⟨by rfl, ?_⟩; intro W hSw; (try dsimp only at hSw); go_simp; (try with_reducible rfl))
        try simp only [Act.put, List.setIfInBounds_toArray, List.set_cons_zero, List.set_cons_succ]
        refine wpAnyH_take (i := 3) (oi := { dst := some 20, op := Op.move (Operand.tmp 3), type := 66, pos := "graph.go:17", after := #[], guard := none }) (v := ?vv4) rfl (by kernel_rfl) (by kernel_rfl) (by kernel_rfl) (fun _ _ _ h => h) ?hy4 (by assumption) ?rest4
        case hy4 => (refine Or.inl ⟨by rfl, ?_⟩; intro W hSw; (try dsimp only at hSw); go_simp; (try with_reducible rfl))
        try simp only [Act.put, List.setIfInBounds_toArray, List.set_cons_zero, List.set_cons_succ]
        refine wpAnyH_take (i := 4) (oi := { dst := some 21, op := Op.fieldAddr 39 (Operand.tmp 5) 0, type := 0, pos := "graph.go:17", after := #[], guard := none }) (v := ?vv5) rfl (by kernel_rfl) (by kernel_rfl) (by kernel_rfl) (fun _ _ _ h => h) ?hy5 (by assumption) ?rest5
        case hy5 => (refine Or.inl ⟨by rfl, ?_⟩; intro W hSw; (try dsimp only at hSw); go_simp; (try with_reducible rfl))
        try simp only [Act.put, List.setIfInBounds_toArray, List.set_cons_zero, List.set_cons_succ]
        refine wpAnyH_take (i := 5) (oi := { dst := some 22, op := Op.load 3 (Operand.tmp 21), type := 3, pos := "graph.go:17", after := #[{ on := 4, ground := Ground.data }], guard := none }) (v := ?vv6) rfl (by kernel_rfl) (by kernel_rfl) (by kernel_rfl) (fun _ _ _ h => h) ?hy6 (by assumption) ?rest6
        case hy6 => (refine Or.inl ⟨by rfl, ?_⟩; intro W hSw; (try dsimp only at hSw); go_simp; (try with_reducible rfl))
        try simp only [Act.put, List.setIfInBounds_toArray, List.set_cons_zero, List.set_cons_succ]
        refine wpAnyH_take (i := 7) (oi := { dst := some 24, op := Op.fieldAddr 39 (Operand.tmp 5) 1, type := 0, pos := "graph.go:17", after := #[], guard := none }) (v := ?vv7) rfl (by kernel_rfl) (by kernel_rfl) (by kernel_rfl) (fun _ _ _ h => h) ?hy7 (by assumption) ?rest7
        case hy7 => (refine Or.inl ⟨by rfl, ?_⟩; intro W hSw; (try dsimp only at hSw); go_simp; (try with_reducible rfl))
        try simp only [Act.put, List.setIfInBounds_toArray, List.set_cons_zero, List.set_cons_succ]
        refine wpAnyH_take (i := 8) (oi := { dst := some 25, op := Op.load 3 (Operand.tmp 24), type := 3, pos := "graph.go:17", after := #[{ on := 7, ground := Ground.data }], guard := none }) (v := ?vv8) rfl (by kernel_rfl) (by kernel_rfl) (by kernel_rfl) (fun _ _ _ h => h) ?hy8 (by assumption) ?rest8
        case hy8 => (refine Or.inl ⟨by rfl, ?_⟩; intro W hSw; (try dsimp only at hSw); go_simp; (try with_reducible rfl))
        try simp only [Act.put, List.setIfInBounds_toArray, List.set_cons_zero, List.set_cons_succ]
        refine wpAnyH_ready (rs := [6, 9]) (by kernel_rfl) (by simp) ?_
        refine AllReadyH.cons (o := { dst := some 23, op := Op.lookup 66 (Operand.tmp 20) (Operand.tmp 22) false, type := 30, pos := "graph.go:17", after := #[{ on := 3, ground := Ground.data }, { on := 5, ground := Ground.data }], guard := none }) rfl (fun K hK => ?step9) ?more9
        (refine step_look_run lk0 rfl (.tmp 20) (.tmp 22) rfl rfl rfl ?_)
        refine hK.out _ _ ?hS9 (fun hHeld => ?rr9)
        case hS9 => (exact ⟨s0, s1⟩)
        clear hK K
        try simp only [Act.put, List.setIfInBounds_toArray, List.set_cons_zero, List.set_cons_succ]
        · refine wpAnyH_ready (rs := [9]) (by kernel_rfl) (by simp) ?_
          refine AllReadyH.cons (o := { dst := some 26, op := Op.buildSlice 30 1 #[(0, Operand.tmp 25)], type := 30, pos := "graph.go:17", after := #[{ on := 8, ground := Ground.data }], guard := none }) rfl (fun K hK => ?step10) ?more10
          case more10 => exact AllReadyH.nil
          (go_simp)
          refine hK.out _ _ ?hS10 (fun hHeld => ?rr10)
          case hS10 => (exact cA)
          clear hK K
          try simp only [Act.put, List.setIfInBounds_toArray, List.set_cons_zero, List.set_cons_succ]
          refine wpAnyH_ready (rs := [10]) (by kernel_rfl) (by simp) ?_
          refine AllReadyH.cons (o := { dst := some 27, op := Op.call { callee := Callee.builtin Builtin.append, args := #[Operand.tmp 23, Operand.tmp 26], argTypes := #[30, 30] }, type := 30, pos := "graph.go:17", after := #[{ on := 6, ground := Ground.data }, { on := 9, ground := Ground.data }], guard := none }) rfl (fun K hK => ?step11) ?more11
          case more11 => exact AllReadyH.nil
          (refine step_app_run hr1 rfl (.tmp 23) (.tmp 26) rfl rfl rfl ?_)
          refine hK.out _ _ ?hS11 (fun hHeld => ?rr11)
          case hS11 => (exact c1)
          clear hK K
          try simp only [Act.put, List.setIfInBounds_toArray, List.set_cons_zero, List.set_cons_succ]
          refine wpAnyH_ready (rs := [11]) (by kernel_rfl) (by simp) ?_
          refine AllReadyH.cons (o := { dst := none, op := Op.mapUpdate 66 (Operand.tmp 17) (Operand.tmp 19) (Operand.tmp 27), type := 0, pos := "graph.go:17", after := #[{ on := 0, ground := Ground.data }, { on := 2, ground := Ground.data }, { on := 10, ground := Ground.data }, { on := 10, ground := Ground.chain }, { on := 0, ground := Ground.phase }, { on := 1, ground := Ground.phase }, { on := 2, ground := Ground.phase }, { on := 3, ground := Ground.phase }, { on := 4, ground := Ground.phase }, { on := 5, ground := Ground.phase }, { on := 6, ground := Ground.phase }, { on := 7, ground := Ground.phase }, { on := 8, ground := Ground.phase }, { on := 9, ground := Ground.phase }, { on := 10, ground := Ground.phase }], guard := none }) rfl (fun K hK => ?step12) ?more12
          case more12 => exact AllReadyH.nil
          (refine step_put_run hr2 rfl (.tmp 17) (.tmp 19) (.tmp 27) rfl rfl rfl rfl ?_)
          refine hK.out _ _ ?hS12 (fun hHeld => ?rr12)
          case hS12 => (exact c2)
          clear hK K
          try simp only [Act.put, List.setIfInBounds_toArray, List.set_cons_zero, List.set_cons_succ]
          refine wpAnyH_done (by kernel_rfl) ?_ _
          go_wp2_with fail
          go_meet
          exact ⟨L2, clock2, hg2, c2, hbw2⟩
        · refine AllReadyH.cons (o := { dst := some 26, op := Op.buildSlice 30 1 #[(0, Operand.tmp 25)], type := 30, pos := "graph.go:17", after := #[{ on := 8, ground := Ground.data }], guard := none }) rfl (fun K hK => ?step13) ?more13
          case more13 => exact AllReadyH.nil
          (go_simp)
          refine hK.out _ _ ?hS13 (fun hHeld => ?rr13)
          case hS13 => (exact cA)
          clear hK K
          try simp only [Act.put, List.setIfInBounds_toArray, List.set_cons_zero, List.set_cons_succ]
          refine wpAnyH_ready (rs := [6]) (by kernel_rfl) (by simp) ?_
          refine AllReadyH.cons (o := { dst := some 23, op := Op.lookup 66 (Operand.tmp 20) (Operand.tmp 22) false, type := 30, pos := "graph.go:17", after := #[{ on := 3, ground := Ground.data }, { on := 5, ground := Ground.data }], guard := none }) rfl (fun K hK => ?step14) ?more14
          case more14 => exact AllReadyH.nil
          (refine step_look_run lkA rfl (.tmp 20) (.tmp 22) rfl rfl rfl ?_)
          refine hK.out _ _ ?hS14 (fun hHeld => ?rr14)
          case hS14 => (exact cA)
          clear hK K
          try simp only [Act.put, List.setIfInBounds_toArray, List.set_cons_zero, List.set_cons_succ]
          refine wpAnyH_ready (rs := [10]) (by kernel_rfl) (by simp) ?_
          refine AllReadyH.cons (o := { dst := some 27, op := Op.call { callee := Callee.builtin Builtin.append, args := #[Operand.tmp 23, Operand.tmp 26], argTypes := #[30, 30] }, type := 30, pos := "graph.go:17", after := #[{ on := 6, ground := Ground.data }, { on := 9, ground := Ground.data }], guard := none }) rfl (fun K hK => ?step15) ?more15
          case more15 => exact AllReadyH.nil
          (refine step_app_run hr1 rfl (.tmp 23) (.tmp 26) rfl rfl rfl ?_)
          refine hK.out _ _ ?hS15 (fun hHeld => ?rr15)
          case hS15 => (exact c1)
          clear hK K
          try simp only [Act.put, List.setIfInBounds_toArray, List.set_cons_zero, List.set_cons_succ]
          refine wpAnyH_ready (rs := [11]) (by kernel_rfl) (by simp) ?_
          refine AllReadyH.cons (o := { dst := none, op := Op.mapUpdate 66 (Operand.tmp 17) (Operand.tmp 19) (Operand.tmp 27), type := 0, pos := "graph.go:17", after := #[{ on := 0, ground := Ground.data }, { on := 2, ground := Ground.data }, { on := 10, ground := Ground.data }, { on := 10, ground := Ground.chain }, { on := 0, ground := Ground.phase }, { on := 1, ground := Ground.phase }, { on := 2, ground := Ground.phase }, { on := 3, ground := Ground.phase }, { on := 4, ground := Ground.phase }, { on := 5, ground := Ground.phase }, { on := 6, ground := Ground.phase }, { on := 7, ground := Ground.phase }, { on := 8, ground := Ground.phase }, { on := 9, ground := Ground.phase }, { on := 10, ground := Ground.phase }], guard := none }) rfl (fun K hK => ?step16) ?more16
          case more16 => exact AllReadyH.nil
          (refine step_put_run hr2 rfl (.tmp 17) (.tmp 19) (.tmp 27) rfl rfl rfl rfl ?_)
          refine hK.out _ _ ?hS16 (fun hHeld => ?rr16)
          case hS16 => (exact c2)
          clear hK K
          try simp only [Act.put, List.setIfInBounds_toArray, List.set_cons_zero, List.set_cons_succ]
          refine wpAnyH_done (by kernel_rfl) ?_ _
          go_wp2_with fail
          go_meet
          exact ⟨L2, clock2, hg2, c2, hbw2⟩
      case rest =>
        obtain ⟨L3, clock3, hg3, ⟨c30, c31⟩, hb3⟩ := hcut
        obtain ⟨v4, hv4, hlk4, hown4, hput4⟩ := hg3.bump keyedI Try.underlying66 zeroI (keyI HR2.out.2) hb3.size
        have lk4 := (hlk4 _ (Below.refl _ _)).2
        have HT : Hid (graph0 (l.take (k + 1)) = addE (graph0 (l.take k)) (x, y)) := Lib.hid (by rw [List.take_succ_eq_append_getElem HLT.out, graph0_snoc, (List.getElem?_eq_some_iff.1 HX.out).2])
        have HA : Hid (addE (graph0 (l.take k)) (x, y) = if hasK (putK (graph0 (l.take k)) x (at_ (graph0 (l.take k)) x ++ [y])) y then putK (graph0 (l.take k)) x (at_ (graph0 (l.take k)) x ++ [y]) else putK (graph0 (l.take k)) x (at_ (graph0 (l.take k)) x ++ [y]) ++ [(y, [])]) := Lib.hid rfl
        have HG3 := Lib.hid hg3
        have HB3 := Lib.hid hb3
        generalize hG3 : putK (graph0 (l.take k)) x (at_ (graph0 (l.take k)) x ++ [y]) = G3 at *
        by_cases hh : hasK G3 y = true
        · rw [hh] at lk4
          have HH := Lib.hid hh
          clear hh hG3 hg3 hb3 hput4 hlk4 hv4 hown4
          go_wp2_with (at_lookup; refine wpList_look_run rfl _ _ _ _ rfl rfl rfl lk4 ?_)
          go_roundw
          case rel => exact ⟨k + 1, L3, clock3, HLT.out, by go_num, by rw [HT.out, HA.out, if_pos HH.out]; exact HG3.out, HB3.out⟩
          case measure => have := HLT.out; simp [intOf]; omega
        · have hh' : hasK G3 y = false := by simpa using hh
          rw [hh'] at lk4
          obtain ⟨w5, L5, clock5, hr5, hg5, ht5⟩ := hput4 wc (.slice none 0 0) [] (Touch.refl _ _) (RowIs.nil _ _) (fun k e => by cases e)
          have HG5 : Hid (GAt Try.prog 3 w5 w.heap.size w.heap.size (G3 ++ [(y, [])]) L5 clock5) := Lib.hid (by unfold putK at hg5; rw [if_neg hh] at hg5; exact hg5)
          have HB5 : Hid (Below w.heap.size w w5) := Lib.hid (hb3.trans (ht5.below (fun i e => Nat.le_of_eq e.symm) hb3.size))
          have HH := Lib.hid hh
          clear hh hG3 hg3 hb3 hput4 hlk4 hv4 hown4 hh' hg5 ht5
          go_wp2_with (first | (at_lookup; refine wpList_look_run rfl _ _ _ _ rfl rfl rfl lk4 ?_) | (at_mapUpdate; refine wpList_put_run rfl _ _ _ _ rfl rfl rfl rfl hr5 ?_))
          go_roundw
          case rel => exact ⟨k + 1, L5, clock5, HLT.out, by go_num, by rw [HT.out, HA.out, if_neg HH.out]; exact HG5.out, HB5.out⟩
          case measure => have := HLT.out; simp [intOf]; omega
    · obtain rfl : k = l.length := by omega
      have HG2 : Hid (GAt Try.prog 3 wr w.heap.size w.heap.size (graph0 l) L clock) := Lib.hid (by have := HG.out; rwa [List.take_length] at this)
      have hN : ∀ e ∈ graph0 l, e.2.length ≤ 1000 := fun e he => by
        obtain ⟨j, hj⟩ := List.getElem?_of_mem he
        have h1 := (at_hit (x := e.1) (l := e.2) HG2.out.nodup hj).1
        rw [← h1]
        exact Nat.le_trans (at_graph0_len l _) hl
      have HN := Lib.hid hN
      have HK : Hid (∀ e ∈ graph0 l, InR64 e.1) := Lib.hid (fun e he => by
        obtain ⟨z, hz, h | h⟩ := key_graph0 l e he
        · rw [h]; exact (HR.out z hz).1
        · rw [h]; exact (HR.out z hz).2)
      clear HG hlt hk hN
      go_wp2_with (at_range; refine wpList_map_start _ rfl _ 66 rfl Try.underlying66 HG2.out.map rfl ?_; intro w1 hit1 hb1 hz1)
      have HI := Lib.hid hit1
      have HB1 := Lib.hid hb1
      have HBS : Hid ((L.map (·.born)).length = (graph0 l).length) := Lib.hid (by rw [List.length_map, HG2.out.len])
      have HND : Hid ((L.map (·.born)).Nodup) := Lib.hid HG2.out.map.apart
      have HS0 : Hid (SecI w w.heap.size wr.heap.size (L.map (·.born)) (graph0 l) clock #[] w1) := Lib.hid ⟨L, by rw [mixG_none HBS.out]; exact HG2.out.below hb1, rfl, hit1, fun e he k hk => by
        obtain ⟨j, hj⟩ := List.getElem?_of_mem he
        have h1 : j < (graph0 l).length := by rw [← HG2.out.len]; exact (List.getElem?_eq_some_iff.1 hj).1
        exact (HG2.out.each j e _ hj (List.getElem?_eq_getElem h1)).2.lt k hk, HB.out.trans (hb1.mono HB.out.size)⟩
      have HWL : Hid (w.heap.size < wr.heap.size) := Lib.hid HG2.out.map.lt
      generalize hbs : L.map (·.born) = bs at *
      clear hit1 hb1 hz1 HG2 hbs HM0 HB0 HB HI HB1
      generalize hit : wr.heap.size = it at *
      go_wp2_with fail
      go_frame
      go_loopg [] (unseen (bs.map (fun b => (b, 0))) #[]) (fun g wx => ∃ seen, unseen (bs.map (fun b => (b, 0))) seen = g ∧ SecI w w.heap.size it bs (graph0 l) clock seen wx)
      case atStart => exact ⟨#[], rfl, HS0.out⟩
      case round =>
        obtain ⟨seen, hg, hs⟩ := hrel
        have HGG := Lib.hid hg
        obtain ⟨L3, g3, hbs3, it3, own3, b3⟩ := hs
        have HG3 := Lib.hid g3
        have HO3 := Lib.hid own3
        have HB3 := Lib.hid b3
        have HBS3 := Lib.hid hbs3
        have HI3 := Lib.hid it3
        clear hg g3 hbs3 it3 own3 b3
        go_wp2_with (at_next; refine wpList_map_step _ rfl _ rfl HG3.out.map HI3.out (by have := HWL.out; omega) rfl ?_ ?_)
        · intro hall
          have HF : Hid (mixG bs seen (graph0 l) = graphR l) := Lib.hid (mixG_all HBS.out (fun b hb => by
            rw [← HBS3.out] at hb
            obtain ⟨e, he, rfl⟩ := List.mem_map.1 hb
            exact hall e he))
          clear hall
          go_wp2
          go_ret
          exact ⟨_, L3, clock, rfl, by rw [← HF.out]; exact HG3.out, HB3.out⟩
        · intro e he hs w2 hit2 ht2 hz2 hen
          obtain ⟨j, hj⟩ := List.getElem?_of_mem he
          have hb : bs[j]? = some e.born := by rw [← HBS3.out, List.getElem?_map, hj]; rfl
          have hjl : j < (graph0 l).length := by rw [← HBS.out]; exact (List.getElem?_eq_some_iff.1 hb).1
          have hx : (graph0 l)[j]? = some (graph0 l)[j] := List.getElem?_eq_getElem hjl
          have hxn := HN.out _ (List.getElem_mem hjl)
          have hxk := HK.out _ (List.getElem_mem hjl)
          generalize (graph0 l)[j] = y at hx hxn hxk
          obtain ⟨x, l0⟩ := y
          have hmj : (mixG bs seen (graph0 l))[j]? = some (x, l0) := by rw [mixG_get HBS.out seen j hb hx, if_neg hs]
          have hown := HO3.out e he
          have hgi : w.heap.size ≠ it := by have := HWL.out; omega
          have hg2 := HG3.out.touch ht2 hgi (fun e' he' k hk e'' => by have := HO3.out e' he' k hk; omega)
          obtain ⟨hek, hrow⟩ := hg2.each j e _ hj hmj
          have hb2 : Below w.heap.size w w2 := HB3.out.trans (ht2.below (fun i hi => by have := HWL.out; omega) HB3.out.size)
          have HPU : Hid (mixG bs (seen.push e.born) (graph0 l) = (mixG bs seen (graph0 l)).set j (x, rises l0)) := Lib.hid (mixG_push HBS.out HND.out hb hx)
          have HUN : Hid (unseen (bs.map (fun b => (b, 0))) (seen.push e.born) + 1 = unseen (bs.map (fun b => (b, 0))) seen) := Lib.hid (seenSum_push (bs.map (fun b => (b, 0))) seen (e.born, 0) (by rw [List.map_map, show ((fun x : Nat × Nat => x.1) ∘ fun b => (b, 0)) = id from rfl, List.map_id]; exact HND.out) (List.mem_map.2 ⟨e.born, List.mem_of_getElem? hb, rfl⟩) hs).2
          have HG4 := Lib.hid hg2
          have HB4 := Lib.hid hb2
          have HJ := Lib.hid hj
          have HMJ := Lib.hid hmj
          have HXK := Lib.hid hxk
          have HIT := Lib.hid hit2
          have HOW := Lib.hid hown
          have HS1 := Lib.hid (sort_row hrow (by have : l0.length ≤ 1000 := hxn; omega))
          have HXN : Hid (l0.length ≤ 1000) := Lib.hid hxn
          rw [hek] at hen ⊢
          clear hrow hg2 hb2 hj hmj hxk hxn hit2 hown ht2 hz2 hb hx hjl hgi hek he hs
          go_wp2_with fail
          refine (HS1.out).mono ?_
          rintro _ w3 ⟨rfl, hr3, ht3⟩
          have HT3 := Lib.hid ht3
          have HC1 := Lib.hid (compact_row (l := sorted l0) (by rw [sorted_len]; exact hr3) (by rw [sorted_len]; have := HXN.out; omega))
          clear hr3 ht3
          go_wp2_with fail
          refine (HC1.out).mono ?_
          rintro _ w4 ⟨v', rfl, hv', hr4, ht4⟩
          obtain ⟨w5, hr5, hg5, ht5⟩ := HG4.out.set keyedI Try.underlying66 (keyI HXK.out) HJ.out HMJ.out (HT3.out.trans ht4 (fun _ _ h => h)) hr4 hv' HB4.out.size
          have hT : Touch (fun k => k = w.heap.size ∨ e.val.ownBlock = some k) w2 w5 := ((HT3.out.trans ht4 (fun _ _ h => h)).mono (T := fun k => k = w.heap.size ∨ e.val.ownBlock = some k) (fun _ _ h => .inr h)).trans ht5 (fun _ _ h => .inl h)
          have HS5 : Hid (SecI w w.heap.size it bs (graph0 l) clock (seen.push e.born) w5) := Lib.hid ⟨_, by rw [HPU.out]; exact hg5, by rw [List.map_set, ← HBS3.out]; exact set_same (by rw [List.getElem?_map, HJ.out]; rfl), IterAt.keep w2 HIT.out (hT.block it (IterAt.lt w2 HIT.out) (fun h => h.elim (fun h => by have := HWL.out; omega) (fun h => by have := HOW.out _ h; omega))), fun e' he' k hk => by
            rcases List.mem_or_eq_of_mem_set he' with h | rfl
            · exact HO3.out e' h k hk
            · exact HOW.out k (hv' ▸ hk), HB4.out.trans (hT.below (fun i h => h.elim (fun h => Nat.le_of_eq h.symm) (fun h => (HG4.out.own e (List.mem_of_getElem? HJ.out) i h).1)) HB4.out.size)⟩
          clear hv' hr4 ht4 hg5 ht5 hT
          go_wp2_with (at_mapUpdate; refine wpList_put_run rfl _ _ _ _ rfl rfl rfl rfl hr5 ?_)
          go_roundg (unseen (bs.map (fun b => (b, 0))) (seen.push e.born))
          case measure => have := HUN.out; have := HGG.out; omega
          case rel => exact ⟨seen.push e.born, rfl, HS5.out⟩
end Go.Proofs.Ytlbhpeeggbfcpaa
