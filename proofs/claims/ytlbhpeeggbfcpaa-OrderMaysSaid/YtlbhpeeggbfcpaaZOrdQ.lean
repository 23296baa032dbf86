/- order: what Certify's walk wants: the box of edges, rows beside other objects, a number struck out of a row. order: Certify, in plain words: the edges of the rounds, and what the order of the graph makes of them. -/
import Derived.Test.YtlbhpeeggbfcpaaZOrdP
set_option linter.unusedSimpArgs false
set_option linter.unusedVariables false
set_option linter.unnecessarySimpa false
namespace Go.Proofs.Ytlbhpeeggbfcpaa
open Go.RowKit Go.Sort Go.Shelf Go.Lib

/-- A row stays where nothing but an object without cells is turned. -/
theorem RowC.walk {w w' : World} {z g cap : Nat} {l : List Value} {row : Option Nat} (h : RowC w z g cap l) (hg : w.grownBy w' row) (hr : ∀ r, row = some r → ∃ o : Obj, w.heap[r]? = some o ∧ o.isCells = false) : RowC w' z g cap l := by
  by_cases e : row = some g
  · obtain ⟨o, ho, hc⟩ := hr g e
    have hno : ∀ j, w.cell? ⟨g, j, none⟩ = none := fun j => by
      unfold World.cell?
      rw [show w.heap[(⟨g, j, none⟩ : Addr).block]? = some o from ho]
      cases o <;> first | rfl | cases hc
    have h0 : cap * z = 0 := by
      rcases Nat.eq_zero_or_pos (cap * z) with h1 | h1
      · exact h1
      · have := (h.there 0 h1).1
        rw [hno] at this
        cases this
    refine ⟨Nat.lt_of_lt_of_le h.lt hg.size, h.le, h.max, fun j b hj => ?_, fun j hj => by omega⟩
    have := h.holds j b hj
    rw [hno] at this
    cases this
  · exact h.keep hg.size (hg.block g h.lt (fun e' => e e'.symm))
theorem RowIs.walk {w w' : World} {z n : Nat} {v : Value} {l : List Value} {row : Option Nat} (h : RowIs w z v n l) (hg : w.grownBy w' row) (hr : ∀ r, row = some r → ∃ o : Obj, w.heap[r]? = some o ∧ o.isCells = false) : RowIs w' z v n l := by
  rcases h with h | ⟨g, cap, e, h1, h2, h3⟩
  · exact .inl h
  · exact .inr ⟨g, cap, e, h1, h2, h3.walk hg hr⟩
theorem heap_walk {w w' : World} {b : Nat} {cs : Array Value} {t : TypeId} {fr : Nat × Nat} {row : Option Nat} (h : w.heap[b]? = some (.cells cs t fr)) (hg : w.grownBy w' row) (hr : ∀ r, row = some r → ∃ o : Obj, w.heap[r]? = some o ∧ o.isCells = false) : w'.heap[b]? = some (.cells cs t fr) :=
  (hg.block b (heap_lt h) (fun e => by
    obtain ⟨o, ho, hc⟩ := hr b e.symm
    rw [h] at ho
    cases ho
    cases hc)).trans h
/-- The variable of edges, in block eb; its row lies behind it, and is none of F. -/
def EdB (W : World) (eb : Nat) (F : Nat → Prop) (E : List (Int × Int)) : Prop := ∃ A c, W.heap[eb]? = some (.cells #[.slice A E.length c] 33 (0, 0)) ∧ RowIs W 2 (.slice A E.length c) E.length (edgesC E) ∧ ∀ b, (Value.slice A E.length c).ownBlock = some b → eb < b ∧ ¬ F b
theorem EdB.below {W W' : World} {eb : Nat} {F : Nat → Prop} {E : List (Int × Int)} (h : EdB W eb F E) (hb : Below W.heap.size W W') : EdB W' eb F E := by
  obtain ⟨A, c, h1, h2, h3⟩ := h
  exact ⟨A, c, (hb.block eb (heap_lt h1)).trans h1, h2.below hb, h3⟩
theorem EdB.walk {W W' : World} {eb : Nat} {F : Nat → Prop} {E : List (Int × Int)} {row : Option Nat} (h : EdB W eb F E) (hg : W.grownBy W' row) (hr : ∀ r, row = some r → ∃ o : Obj, W.heap[r]? = some o ∧ o.isCells = false) : EdB W' eb F E := by
  obtain ⟨A, c, h1, h2, h3⟩ := h
  exact ⟨A, c, heap_walk h1 hg hr, h2.walk hg hr, h3⟩
theorem EdB.less {W : World} {eb : Nat} {F F' : Nat → Prop} {E : List (Int × Int)} (h : EdB W eb F E) (hF : ∀ b, b < W.heap.size → F' b → F b) : EdB W eb F' E := by
  obtain ⟨A, c, h1, h2, h3⟩ := h
  exact ⟨A, c, h1, h2, fun b hb => ⟨(h3 b hb).1, fun e => (h3 b hb).2 (hF b (h2.lt b hb) e)⟩⟩
/-- An edge is put behind, and stored. -/
theorem EdB.push {W : World} {eb : Nat} {F : Nat → Prop} {E : List (Int × Int)} (h : EdB W eb F E) (x y : Int) (hl : E.length ≤ 100000) (hF : ∀ b, F b → b < W.heap.size ∧ b ≠ eb) :
    ∃ A c A' c' w', W.cell? ⟨eb, 0, none⟩ = some (.slice A E.length c) ∧ (Builtin.append_ #[33, 33] 33 #[.slice A E.length c, .slice (some ⟨W.heap.size, 0, none⟩) 1 1]).run Try.prog (W.alloc (.cells #[.int .i64 x, .int .i64 y] 39)) = .ok (.slice A' (E.length + 1) c') w' ∧ w'.cell? ⟨eb, 0, none⟩ = some (.slice A E.length c) ∧ w'.frozen? ⟨eb, 0, none⟩ = false ∧ EdB (w'.setCell ⟨eb, 0, none⟩ (.slice A' (E.length + 1) c')) eb F (E ++ [(x, y)]) ∧ (∀ b, b < W.heap.size → b ≠ eb → (b < eb ∨ F b) → (w'.setCell ⟨eb, 0, none⟩ (.slice A' (E.length + 1) c')).heap[b]? = W.heap[b]?) ∧ Below eb W (w'.setCell ⟨eb, 0, none⟩ (.slice A' (E.length + 1) c')) ∧ RowIs W 2 (.slice A E.length c) E.length (edgesC E) ∧ Touch (fun b => (Value.slice A E.length c).ownBlock = some b ∨ b = eb) W (w'.setCell ⟨eb, 0, none⟩ (.slice A' (E.length + 1) c')) := by
  obtain ⟨A, c, h1, h2, h3⟩ := h
  obtain ⟨v', w', hr, hrow, ht, ho⟩ := app_edge (w := W) x y 33 h2 (by omega)
  obtain ⟨A', c', ev, _⟩ := id hrow.form
  rw [List.length_append, List.length_singleton] at ev
  subst ev
  have hel := heap_lt h1
  have heb : w'.heap[eb]? = some (.cells #[.slice A E.length c] 33 (0, 0)) := (ht.block eb hel (fun e => by have := (h3 eb e).1; omega)).trans h1
  have hT : Touch (fun b => (Value.slice A E.length c).ownBlock = some b ∨ b = eb) W (w'.setCell ⟨eb, 0, none⟩ (.slice A' (E.length + 1) c')) := (ht.mono (fun _ _ e => .inl e)).setCell ⟨eb, 0, none⟩ (fun _ => .inr rfl) _
  have hT2 : Touch (fun b => b = eb) w' (w'.setCell ⟨eb, 0, none⟩ (.slice A' (E.length + 1) c')) := (Touch.refl (fun b => b = eb) w').setCell ⟨eb, 0, none⟩ (fun _ => rfl) _
  have ho2 : ∀ b, (Value.slice A' (E.length + 1) c').ownBlock = some b → eb < b ∧ ¬ F b := fun b hb => by
    rcases ho b hb with e | e
    · exact h3 b e
    · exact ⟨by omega, fun f => by have := (hF b f).1; omega⟩
  refine ⟨A, c, A', c', w', cell_of h1 0, hr, cell_of heb 0, free0 heb 0, ⟨A', c', ?_, ?_, ?_⟩, fun b hb hne hf => hT.block b hb (fun e => ?_), hT.below (fun b e => ?_) (Nat.le_of_lt hel), h2, hT⟩
  · rw [List.length_append, List.length_singleton]
    have := set_at heb 0 (.slice A' (E.length + 1) c')
    simpa using this
  · rw [List.length_append, List.length_singleton] at hrow ⊢
    exact hrow.touch hT2 (fun b hb e => by have := (ho2 b hb).1; omega)
  · rw [List.length_append, List.length_singleton]
    exact ho2
  · rcases e with e | e
    · rcases hf with f | f
      · have := (h3 b e).1; omega
      · exact (h3 b e).2 f
    · exact hne e
  · rcases e with e | e
    · exact Nat.le_of_lt (h3 b e).1
    · omega
set_option maxRecDepth 100000 in
set_option maxHeartbeats 1000000 in
theorem isS_any (x s : Int) (sb : Nat) (W : World) (h : W.cell? ⟨sb, 0, none⟩ = some (.int .i64 s)) : Calls Try.prog 36 #[.int .i64 x, .pointer (some ⟨sb, 0, none⟩)] W fun e w' => e = .returned (.bool (x == s)) ∧ ∃ q, w' = W.drewN q := by
  go_enter Try.func36, Try.ntmps36
  go_wp2_with fail
  go_ret
  first | exact ⟨rfl, 0, rfl⟩ | exact ⟨0, rfl⟩ | (refine ⟨?_, 0, rfl⟩; simp)
set_option maxRecDepth 100000 in
set_option maxHeartbeats 1000000 in
/-- A number is struck out of a row of one's own. -/
theorem strike_any {w : World} {v : Value} {l : List Int} {s : Int} {sb : Nat} (h : RowIs w 1 v l.length (ints l)) (hl : l.length ≤ 100000) (hs : w.cell? ⟨sb, 0, none⟩ = some (.int .i64 s)) (ho : v.ownBlock ≠ some sb) : Calls Try.prog 35 #[v, .func (.func 36) #[] #[.pointer (some ⟨sb, 0, none⟩)]] w fun e w' => ∃ v', e = .returned v' ∧ RowIs w' 1 v' (l.filter fun x => !(x == s)).length (ints (l.filter fun x => !(x == s))) ∧ (∀ b, v'.ownBlock = some b → v.ownBlock = some b) ∧ Touch (fun b => v.ownBlock = some b) w w' := by
  rcases h with ⟨rfl, h1, h2⟩ | ⟨g, cap, rfl, h1, h2, h3⟩
  · have : l = [] := List.eq_nil_of_length_eq_zero h1
    subst this
    have HX := Lib.hid (AnyE.slices_IndexFunc_empty (P := Try.prog) (ρ := Try.delA_ren) { Try.delA with } none 0 (.func (.func 36) #[] #[.pointer (some ⟨sb, 0, none⟩)]) w)
    clear ho h1 h2
    go_enter Try.func35, Try.ntmps35
    go_wp2_with fail
    refine (HX.out).mono ?_
    rintro e w1 ⟨rfl, rfl⟩
    go_wp2_with fail
    go_ret
    exact ⟨_, rfl, (RowIs.nil _ 1 : RowIs _ 1 _ ([] : List Int).length (ints [])), (fun b e => nomatch e), Touch.refl _ _⟩
  · have hsl := heap_lt' hs
    have hne : sb ≠ g := fun e => ho (by rw [e]; rfl)
    have hp : PredAt Try.prog 36 #[.pointer (some ⟨sb, 0, none⟩)] (Value.int .i64) (fun x => x == s) w := fun W x hb => isS_any x s sb W ((hb.cell (p := ⟨sb, 0, none⟩) hsl).trans hs)
    have hpo : PredOver Try.prog 36 #[.pointer (some ⟨sb, 0, none⟩)] (Value.int .i64) (fun x => x == s) g 0 l.toArray.size w := fun n os dk x _ => isS_any x s sb _ (by
      unfold sortWorld
      rw [cell?_grow _ _ _ (by rw [size_putRow]; exact hsl), cell?_putRow_other _ _ _ _ _ _ (.inl hne)]
      exact hs)
    have hH := holds_row h3
    have h2' : l.length ≤ cap := h2
    have hc := AnyE.slices_DeleteFunc Try.delA (Value.int .i64) (fun _ => rfl) (fun x => x == s) 36 #[.pointer (some ⟨sb, 0, none⟩)] (enters_of Try.func36 (by kernel_rfl) rfl) (0 : Int) zeroN g 0 cap l.toArray w hp hpo hH (by simp; omega) (by simpa using h2')
    have e0 : l.toArray.size = l.length := by simp
    have e1 : l.toArray.toList = l := by simp
    rw [e0, e1] at hc
    refine hc.mono ?_
    rintro e w' ⟨rfl, q, rfl⟩
    have hle : (l.filter fun x => !(x == s)).length ≤ l.length := List.length_filter_le _ _
    have hpr := row_put (n := q) (ts := (l.filter fun x => !(x == s)) ++ List.replicate (l.length - (l.filter fun x => !(x == s)).length) 0) h3 (by rw [List.length_append, List.length_replicate]; omega)
    have hri : RowIs (putRow (Value.int .i64) (Sort.ahead w q) g 0 ((l.filter fun x => !(x == s)) ++ List.replicate (l.length - (l.filter fun x => !(x == s)).length) 0).toArray) 1 (.slice (some ⟨g, 0, none⟩) (l.filter fun x => !(x == s)).length cap) (l.filter fun x => !(x == s)).length (ints (l.filter fun x => !(x == s))) := by
      refine .inr ⟨g, cap, rfl, by rw [ints_len, Nat.mul_one], by omega, ?_⟩
      unfold ints at hpr ⊢
      rw [List.map_append] at hpr
      exact hpr.less
    exact ⟨_, rfl, hri, fun b e => e, (touch_put w g q _).mono (fun k _ e => by rw [e]; rfl)⟩
end Go.Proofs.Ytlbhpeeggbfcpaa

namespace Go.Proofs.Ytlbhpeeggbfcpaa
open Go.RowKit Go.Shelf

def edP (p : Tk × Tk) : List (Int × Int) := if p.1.g = p.2.g then [] else [(p.2.g, p.1.g)]
def edR (S : List Tk) (pre : List (RndT S)) : List (Int × Int) := pre.flatMap fun y => edP (rndP S y.1)
theorem edP_len (p : Tk × Tk) : (edP p).length ≤ 1 := by unfold edP; split <;> simp
theorem edR_snoc (S : List Tk) (pre : List (RndT S)) (x : RndT S) : edR S (pre ++ [x]) = edR S pre ++ edP (rndP S x.1) := by simp [edR]
theorem edR_len (S : List Tk) (pre : List (RndT S)) : (edR S pre).length ≤ pre.length := by
  induction pre with
  | nil => exact Nat.le_refl _
  | cons x r ih =>
    have e : edR S (x :: r) = edP (rndP S x.1) ++ edR S r := rfl
    have := edP_len (rndP S x.1)
    rw [e, List.length_append, List.length_cons]
    omega
theorem edR_all {S : List Tk} {ys : List (RndT S)} (h : ys.map (·.1) = List.range (adjL S).length) : edR S ys = adjE S := by
  have e : (List.range (adjL S).length).map (rndP S) = adjL S := by
    apply List.ext_getElem?
    intro i
    rw [List.getElem?_map]
    by_cases hi : i < (adjL S).length
    · rw [List.getElem?_range hi, rndP_at hi]; rfl
    · rw [List.getElem?_eq_none (by rw [List.length_range]; omega), List.getElem?_eq_none (by omega)]; rfl
  have h2 : ((ys.map (·.1)).map (rndP S)).flatMap edP = adjE S := by rw [h, e]; rfl
  rw [← h2, List.map_map, List.flatMap_map]
  rfl
theorem adjL_len : ∀ S : List Tk, (adjL S).length ≤ S.length
  | [] => Nat.le_refl _
  | [_] => Nat.zero_le _
  | x :: y :: r => by
    have := adjL_len (y :: r)
    have h1 : (if x.site = y.site then [(x, y)] else []).length ≤ 1 := by split <;> simp
    rw [adjL, List.length_append, List.length_cons]
    omega
def AllN (S : List Tk) (pre : List (RndT S)) : Prop := ∀ y ∈ pre, (rndP S y.1).1.n ≠ (rndP S y.1).2.n
def BadN (S : List Tk) : Prop := ∃ x : RndT S, (rndP S x.1).1.n = (rndP S x.1).2.n
theorem AllN.all {S : List Tk} {ys : List (RndT S)} (h : AllN S ys) (hy : ys.map (·.1) = List.range (adjL S).length) : ∀ p ∈ adjL S, p.1.n ≠ p.2.n := fun p hp => by
  obtain ⟨j, hj⟩ := List.getElem?_of_mem hp
  have hjl := (List.getElem?_eq_some_iff.1 hj).1
  have hm : j ∈ ys.map (·.1) := by rw [hy]; exact List.mem_range.2 hjl
  obtain ⟨y, hy, e⟩ := List.mem_map.1 hm
  have h1 := h y hy
  have h2 := rndP_at y.2
  rw [e, hj] at h2
  rw [e, ← Option.some.inj h2] at h1
  exact h1
theorem BadN.cert {S T : List Tk} (h : BadN S) (hp : S.Perm T) : certP T [] false := by
  refine ⟨fun ho => ?_, fun _ => rfl, fun _ => rfl⟩
  obtain ⟨x, hx⟩ := h
  exact absurd hx (adj_pair (ho.perm hp) (List.mem_of_getElem? (rndP_at x.2)))
theorem cert_fin {S T : List Tk} {s : Int} (hp : S.Perm T) (hs : S.Pairwise fun x y => ¬ ltT y x) (hn : ∀ p ∈ adjL S, p.1.n ≠ p.2.n) (hT : ∀ t ∈ T, t.g ≠ s) {ns o : List Int} {b : Bool} (hk : KeysP (edgesT T S s) ns)
    (ho : ordP (graphR (edgesT T S s)) ns ns.length [] = if b then some o else none) (hb : b = false → o = []) : certP T (o.filter fun x => !(x == s)) b := by
  have hlt := adj_once hs hn
  have h1 : OnceP T := (once_lt hlt).perm hp.symm
  by_cases h0 : T = []
  · subst h0
    have hS : S = [] := List.Perm.eq_nil hp
    subst hS
    have hns : ns = [] := by
      cases ns with
      | nil => rfl
      | cons y r =>
        obtain ⟨e, he, _⟩ := (hk.mem y).1 (by simp)
        cases he
    subst hns
    cases b with
    | false => cases ho
    | true =>
      injection ho with ho
      subst ho
      exact ⟨fun _ => rfl, fun e => absurd h1 e, fun e => by cases e⟩
  · rw [ord_cert hp hlt hT hk h0] at ho
    cases b with
    | false =>
      rw [hb rfl]
      cases he : ordT T (allG T) (allG T).length [] with
      | none => exact ⟨fun _ => he, fun e => absurd h1 e, fun _ => rfl⟩
      | some p => rw [he] at ho; cases ho
    | true =>
      cases he : ordT T (allG T) (allG T).length [] with
      | none => rw [he] at ho; cases ho
      | some p =>
        rw [he] at ho
        have ho : s :: p = o := by simpa using ho
        subst ho
        have hI := (ordT_holds _ [] _ (OrdTI.nil T) (fun x hx => by cases hx) he).1
        have hf : (s :: p).filter (fun x => !(x == s)) = p := by
          rw [List.filter_cons]
          simp only [beq_self_eq_true, Bool.not_true, Bool.false_eq_true, ↓reduceIte]
          rw [List.filter_eq_self]
          intro x hx
          obtain ⟨t, ht, e⟩ := ((allG_holds T).2.1 x).1 (hI.sub x hx)
          have := hT t ht
          rw [← e] at this
          simp [this]
        rw [hf]
        exact ⟨fun _ => he, fun e => absurd h1 e, fun e => by cases e⟩
/-- What is no cells stays, when an edge is put behind a row that is none without. -/
theorem EdB.keeps {W W' : World} {eb m : Nat} {E : List (Int × Int)} {A : Option Addr} {c : Nat} (h2 : RowIs W 2 (.slice A E.length c) E.length (edgesC E)) (h0 : 0 < E.length) (hm : eb < m) (ht : Touch (fun b => (Value.slice A E.length c).ownBlock = some b ∨ b = eb) W W') : KeepsFrom m W W' := by
  obtain ⟨A', c', e', _, _, _, h4, h5⟩ := h2.form
  injection e' with e1 _ e3
  subst e1 e3
  refine ⟨ht.size, fun k o hB hk ho => (ht.block k (heap_lt hk) (fun e => ?_)).trans hk⟩
  rcases e with e | e
  · obtain ⟨u, hu⟩ : ∃ u, (edgesC E)[0]? = some u := ⟨_, List.getElem?_eq_getElem (by rw [edgesC_len]; omega)⟩
    obtain ⟨g, hA, hc⟩ := h5 0 u hu
    obtain ⟨g', e1, e2⟩ := h4 _ hA
    injection e1 with e1
    rw [e2] at e
    injection e with e
    have hgk : g = k := by omega
    subst hgk
    have hno : W.cell? ⟨g, 0, none⟩ = none := by
      unfold World.cell?
      rw [show W.heap[(⟨g, 0, none⟩ : Addr).block]? = some o from hk]
      cases o <;> first | rfl | cases ho
    rw [hno] at hc
    cases hc
  · omega
/-- In a round of Certify. -/
structure CertR (w W : World) (rb sb : Nat) (s : Int) (B : Nat) (v : Value) (n : Nat) (E : List (Int × Int)) : Prop where
  bel : Below w.heap.size w W
  big : n ≤ W.heap.size
  r0 : W.heap[rb]? = some (.cells #[.slice none 0 0] 30 (0, 0))
  r1 : W.heap[rb + 1]? = some (.cells #[.bool false] 4 (0, 0))
  s0 : W.heap[sb]? = some (.cells #[.int .i64 s] 3 (0, 0))
  ed : EdB W (sb + 1) (fun b => b = B ∨ v.ownBlock = some b) E
theorem CertR.below {w W W' : World} {rb sb : Nat} {s : Int} {B : Nat} {v : Value} {n : Nat} {E : List (Int × Int)} (h : CertR w W rb sb s B v n E) (hb : Below W.heap.size W W') : CertR w W' rb sb s B v n E :=
  ⟨h.bel.trans (hb.mono h.bel.size), Nat.le_trans h.big hb.size, (hb.block _ (heap_lt h.r0)).trans h.r0, (hb.block _ (heap_lt h.r1)).trans h.r1, (hb.block _ (heap_lt h.s0)).trans h.s0, h.ed.below hb⟩
theorem CertR.walk {w W W' : World} {rb sb : Nat} {s : Int} {B : Nat} {v : Value} {n m : Nat} {E : List (Int × Int)} {row : Option Nat} (h : CertR w W rb sb s B v n E) (hg : W.grownBy W' row) (hr : ∀ r, row = some r → m ≤ r ∧ ∃ o : Obj, W.heap[r]? = some o ∧ o.isCells = false) (hm : w.heap.size ≤ m) : CertR w W' rb sb s B v n E :=
  ⟨h.bel.grown hg h.bel.size (fun k e => by have := (hr k e).1; omega), Nat.le_trans h.big hg.size, heap_walk h.r0 hg (fun r e => (hr r e).2), heap_walk h.r1 hg (fun r e => (hr r e).2), heap_walk h.s0 hg (fun r e => (hr r e).2), h.ed.walk hg (fun r e => (hr r e).2)⟩
end Go.Proofs.Ytlbhpeeggbfcpaa
