/- A store in memory; the place of a key. -/
import Derived.Test.YtkkembbeejlomaaGreatDoorZPagF
set_option linter.unusedSimpArgs false
set_option linter.unusedVariables false
set_option linter.unnecessarySimpa false
namespace Go.Proofs.YtkkembbeejlomaaGreatDoor
open Go.RowKit Go.Shelf Go.Sort Go.Lib

theorem gtr_text (a b : K) : (!Op.bytesLess a b && !a == b) = decide (b < a) := by
  rw [bytesLess_eq]
  by_cases h1 : a < b
  · have h2 : ¬ b < a := fun h => List.lt_irrefl a (List.lt_trans h1 h)
    simp [h1, h2]
  · by_cases h2 : a = b
    · subst h2
      simp [h1]
    · have h3 : b < a := Classical.byContradiction fun h => h2 (List.le_antisymm (List.not_lt.1 h) (List.not_lt.1 h1))
      simp [h1, h2, h3]
/-- Where a page lies. -/
structure Pl where
  g : Nat
  o : Nat
  cap : Nat
def plV (a : Pl) (p : List Row) : Value := .slice (some ⟨a.g, a.o, none⟩) p.length a.cap
def pgsV (as_ : List Pl) (P : List (List Row)) : List Value := List.zipWith plV as_ P
theorem pgsV_at {L : List Pl} {P : List (List Row)} {i : Nat} {a : Pl} {p : List Row} (h1 : L[i]? = some a) (h2 : P[i]? = some p) : (pgsV L P)[i]? = some (plV a p) := by
  unfold pgsV
  rw [List.getElem?_zipWith, h1, h2]
theorem pgsV_len {L : List Pl} {P : List (List Row)} (h : L.length = P.length) : (pgsV L P).length = P.length := by
  unfold pgsV
  rw [List.length_zipWith, h, Nat.min_self]
theorem pgsV_one (L : List Pl) (P : List (List Row)) : ∀ u ∈ pgsV L P, u.oneCell' = true := fun u hu => by
  obtain ⟨i, hi⟩ := List.getElem?_of_mem hu
  unfold pgsV at hi
  rw [List.getElem?_zipWith] at hi
  split at hi
  · obtain rfl := Option.some.inj hi; rfl
  · cases hi
/-- A store. -/
structure St (w : World) (s : Nat) (most : Nat) (v : Value) (L : List Pl) (P : List (List Row)) : Prop where
  head : w.heap[s]? = some (.cells #[.int .i64 most, v] 64 (0, 0))
  row : RowIs w 1 v P.length (pgsV L P)
  len : L.length = P.length
  each : ∀ (i : Nat) (a : Pl) (p : List Row), L[i]? = some a → P[i]? = some p → Area w 2 a.g a.o a.cap (pgC p) ∧ p.length ≤ a.cap
  offs : ∀ a ∈ L, a.g ≠ s ∧ v.ownBlock ≠ some a.g
  apart : L.Pairwise (fun a b => Off a.g a.o (a.cap * 2) b.g b.o (b.cap * 2))
  off : v.ownBlock ≠ some s
/-- What a call may turn of it. -/
def Owns (s : Nat) (v : Value) (L : List Pl) (k : Nat) : Prop := k = s ∨ v.ownBlock = some k ∨ ∃ a ∈ L, a.g = k
theorem St.touch {S : Nat → Prop} {w w' : World} {s most : Nat} {v : Value} {L : List Pl} {P : List (List Row)} (h : St w s most v L P) (ht : Touch S w w') (hS : ∀ k, Owns s v L k → ¬ S k) : St w' s most v L P :=
  ⟨(ht.block s (heap_lt h.head) (hS s (.inl rfl))).trans h.head, RowIs.touch h.row ht (fun g e => hS g (.inr (.inl e))), h.len, fun i a p h1 h2 => ⟨(h.each i a p h1 h2).1.touch ht (hS _ (.inr (.inr ⟨a, List.mem_of_getElem? h1, rfl⟩))), (h.each i a p h1 h2).2⟩, h.offs, h.apart, h.off⟩
theorem St.below {w w' : World} {s most : Nat} {v : Value} {L : List Pl} {P : List (List Row)} (h : St w s most v L P) (hb : Below w.heap.size w w') : St w' s most v L P :=
  h.touch (S := fun _ => False) (.of_below hb) (fun _ _ e => e)
theorem St.owns_lt {w : World} {s most : Nat} {v : Value} {L : List Pl} {P : List (List Row)} (h : St w s most v L P) : ∀ k, Owns s v L k → k < w.heap.size := fun k hk => by
  rcases hk with rfl | hk | ⟨a, ha, rfl⟩
  · exact heap_lt h.head
  · exact RowIs.lt h.row k hk
  · obtain ⟨i, hi⟩ := List.getElem?_of_mem ha
    have hil := (List.getElem?_eq_some_iff.1 hi).1
    exact (h.each i a _ hi (List.getElem?_eq_getElem (h.len ▸ hil))).1.lt
/-- What holds of its pages. -/
structure Fine (most : Nat) (P : List (List Row)) : Prop where
  ne : ∀ p ∈ P, p ≠ []
  full : ∀ p ∈ P, p.length ≤ most
  rise : Rise P.flatten
  total : P.flatten.length ≤ 256
  most : 2 ≤ most ∧ most ≤ 64
theorem flat_len : ∀ (P : List (List Row)), (∀ p ∈ P, p ≠ []) → P.length ≤ P.flatten.length
  | [], _ => Nat.zero_le _
  | p :: P, h => by
    have h1 := flat_len P (fun q hq => h q (List.mem_cons_of_mem _ hq))
    have h2 : 0 < p.length := List.length_pos_iff.2 (h p (List.mem_cons_self ..))
    rw [List.flatten_cons, List.length_append, List.length_cons]
    omega
theorem Fine.len {most : Nat} {P : List (List Row)} (h : Fine most P) : P.length ≤ 256 := Nat.le_trans (flat_len P h.ne) h.total
theorem Fine.page {most : Nat} {P : List (List Row)} (h : Fine most P) {i : Nat} {p : List Row} (hp : P[i]? = some p) : Rise p ∧ 0 < p.length ∧ p.length ≤ 64 := by
  have hm := List.mem_of_getElem? hp
  exact ⟨(List.pairwise_flatten.1 h.rise).1 p hm, List.length_pos_iff.2 (h.ne p hm), Nat.le_trans (h.full p hm) h.most.2⟩
/-- The first keys rise. -/
theorem Fine.firsts {most : Nat} {P : List (List Row)} (h : Fine most P) {i j : Nat} {p q : List Row} {x y : Row} (hij : i < j) (hp : P[i]? = some p) (hq : P[j]? = some q) (hx : x ∈ p) (hy : y ∈ q) : x.k < y.k := by
  have hi := (List.getElem?_eq_some_iff.1 hp)
  have hj := (List.getElem?_eq_some_iff.1 hq)
  have := List.pairwise_iff_getElem.1 (List.pairwise_flatten.1 h.rise).2 i j hi.1 hj.1 hij
  rw [hi.2, hj.2] at this
  exact this x hx y hy
/-- Does page i begin above a key? -/
def aheadP (P : List (List Row)) (k : K) (i : Nat) : Bool := match P[i]? with
  | some (r :: _) => decide (k < r.k)
  | _ => true
def aboveP (P : List (List Row)) (k : K) : Nat := (List.range P.length).countP fun i => !aheadP P k i
def pageP (P : List (List Row)) (k : K) : Nat := aboveP P k - 1
def findP (P : List (List Row)) (k : K) : Nat × Nat × Bool := match P[pageP P k]? with
  | some p => (pageP P k, lowP p k, hasP p k)
  | none => (0, 0, false)
theorem above_le (P : List (List Row)) (k : K) : aboveP P k ≤ P.length := by
  have := List.countP_le_length (p := fun i => !aheadP P k i) (l := List.range P.length)
  rw [List.length_range] at this
  exact this
theorem page_lt {P : List (List Row)} {k : K} (h : 0 < P.length) : pageP P k < P.length := by
  have := above_le P k
  unfold pageP
  omega
theorem over_mono {most : Nat} {P : List (List Row)} (h : Fine most P) {k : K} (a b : Nat) (hab : a ≤ b) (hb : b < P.length) (ha : aheadP P k a = true) : aheadP P k b = true := by
  rcases Nat.lt_or_eq_of_le hab with hlt | rfl
  · have hq : P[b]? = some P[b] := List.getElem?_eq_getElem hb
    have hp : P[a]? = some (P[a]'(by omega)) := List.getElem?_eq_getElem _
    unfold aheadP at ha ⊢
    rw [hp] at ha
    rw [hq]
    generalize P[b] = q at hq
    generalize P[a]'(by omega) = p at hp ha
    obtain ⟨_, hp1, _⟩ := h.page hp
    obtain ⟨_, hq1, _⟩ := h.page hq
    cases p with
    | nil => simp at hp1
    | cons x p =>
      cases q with
      | nil => simp at hq1
      | cons y q =>
        have ha : k < x.k := by simpa using ha
        have := h.firsts hlt hp hq (List.mem_cons_self ..) (List.mem_cons_self ..)
        simpa using k_trans ha this
  · exact ha
theorem row_page {w : World} {s most : Nat} {v : Value} {L : List Pl} {P : List (List Row)} (h : St w s most v L P) {i : Nat} {p : List Row} (hp : P[i]? = some p) :
    ∃ a g c, L[i]? = some a ∧ v = .slice (some ⟨g, 0, none⟩) P.length c ∧ P.length ≤ c ∧ c ≤ maxLen ∧ w.cell? ⟨g, i, none⟩ = some (.slice (some ⟨a.g, a.o, none⟩) p.length a.cap) ∧ Area w 2 a.g a.o a.cap (pgC p) ∧ p.length ≤ a.cap := by
  have hi := (List.getElem?_eq_some_iff.1 hp).1
  have ha : L[i]? = some (L[i]'(by rw [h.len]; exact hi)) := List.getElem?_eq_getElem _
  generalize L[i]'(by rw [h.len]; exact hi) = a at ha
  obtain ⟨A, c, e, h1, h2, _, _, h3⟩ := h.row.form
  obtain ⟨g, rfl, h4⟩ := h3 i _ (pgsV_at ha hp)
  exact ⟨a, g, c, ha, e, h1, h2, h4, (h.each i a p ha hp).1, (h.each i a p ha hp).2⟩
theorem grow_nil (w : World) : grow w #[] = w := by
  cases w
  simp [grow]
theorem below_grow (w : World) (os : Array Obj) : Below w.heap.size w (grow w os) :=
  ⟨rfl, rfl, rfl, by simp [grow], fun k hk => by simp [grow, Array.getElem?_append_left hk]⟩
theorem below_grown_drew (w : World) (n : Nat) (os : Array Obj) : Below w.heap.size w (grow (w.drewN n) os) :=
  (below_drewN (Below.refl _ _) n).trans ((below_grow (w.drewN n) os).mono (by simp))
set_option maxRecDepth 100000 in
set_option maxHeartbeats 4000000 in
/-- The question of the search. -/
theorem ask_any {W : World} {s b0 b1 most : Nat} {v : Value} {L : List Pl} {P : List (List Row)} {k : K} {i : Nat} {x : Row} {p : List Row} (h : St W s most v L P) (h0 : W.cell? ⟨b0, 0, none⟩ = some (.pointer (some ⟨s, 0, none⟩))) (h1 : W.cell? ⟨b1, 0, none⟩ = some (strV k)) (hi : P[i]? = some (x :: p)) (hl : P.length ≤ 256) :
    Calls Tryz.prog 69 #[.int .i64 i, .pointer (some ⟨b0, 0, none⟩), .pointer (some ⟨b1, 0, none⟩)] W fun e w' => e = .returned (.bool (decide (k < x.k))) ∧ w' = W.drewN 1 := by
  obtain ⟨a, g, c, ha, rfl, hc1, hc2, kc, hA, hac⟩ := row_page h hi
  have ks : W.cell? ⟨s, 1, none⟩ = some (.slice (some ⟨g, 0, none⟩) P.length c) := cell_of h.head 1
  have hil := (List.getElem?_eq_some_iff.1 hi).1
  unfold maxLen at hc2
  have hmx := hA.max
  unfold maxLen at hmx
  have hiI : (i : Int) < (P.length : Int) := by omega
  have hlI : (P.length : Int) ≤ 256 := by omega
  have kx : W.cell? ⟨a.g, a.o, none⟩ = some (strV x.k) := hA.holds 0 _ rfl
  rw [List.length_cons] at hac
  have hpl : 0 < ((x :: p).length : Int) := by simp
  obtain ⟨n, hn⟩ : ∃ n, (x :: p).length = n := ⟨_, rfl⟩
  rw [hn] at kc hpl
  have hn0 : 0 < n := by omega
  have hnc : n ≤ a.cap := by rw [← hn]; exact hac
  clear h hi hil hA
  unfold strV at kx h1
  go_enter Tryz.func69, Tryz.ntmps69
  go_wp2_with fail
  refine wp_only ?_
  refine wp_region_held_drew (S := fun W => W.cell? ⟨b0, 0, none⟩ = some (.pointer (some ⟨s, 0, none⟩)) ∧ W.cell? ⟨b1, 0, none⟩ = some (.string ⟨k.toArray⟩) ∧ W.cell? ⟨s, 1, none⟩ = some (.slice (some ⟨g, 0, none⟩) P.length c) ∧ W.cell? ⟨g, i, none⟩ = some (.slice (some ⟨a.g, a.o, none⟩) n a.cap) ∧ W.cell? ⟨a.g, a.o, none⟩ = some (.string ⟨x.k.toArray⟩)) (by kernel_rfl) ⟨h0, h1, ks, kc, kx⟩ (fun hHeld => ?_)
  refine wpAnyH_take (i := 0) (oi := { dst := some 5, op := Op.load 23 (Operand.tmp 1), type := 23, pos := "page.go:107", after := #[], guard := none }) (v := ?vv1) rfl (by kernel_rfl) (by kernel_rfl) (by kernel_rfl) (fun _ _ _ h => h) ?hy1 (by assumption) ?rest1
  case hy1 => (refine Or.inl ⟨by rfl, ?_⟩; intro W hSw; (try dsimp only at hSw); go_simp; (try with_reducible rfl))
  try simp only [Act.put, List.setIfInBounds_toArray, List.set_cons_zero, List.set_cons_succ]
  refine wpAnyH_take (i := 1) (oi := { dst := some 6, op := Op.nilCheck (Operand.tmp 5), type := 0, pos := "page.go:107", after := #[{ on := 0, ground := Ground.data }], guard := none }) (v := ?vv2) rfl (by kernel_rfl) (by kernel_rfl) (by kernel_rfl) (fun _ _ _ h => h) ?hy2 (by assumption) ?rest2
  case hy2 => (refine Or.inl ⟨by rfl, ?_⟩; intro W hSw; (try dsimp only at hSw); go_simp; (try with_reducible rfl))
  try simp only [Act.put, List.setIfInBounds_toArray, List.set_cons_zero, List.set_cons_succ]
  refine wpAnyH_take (i := 2) (oi := { dst := some 7, op := Op.fieldAddr 64 (Operand.tmp 6) 1, type := 0, pos := "page.go:107", after := #[{ on := 1, ground := Ground.data }], guard := none }) (v := ?vv3) rfl (by kernel_rfl) (by kernel_rfl) (by kernel_rfl) (fun _ _ _ h => h) ?hy3 (by assumption) ?rest3
  case hy3 => (refine Or.inl ⟨by rfl, ?_⟩; intro W hSw; (try dsimp only at hSw); go_simp; (try with_reducible rfl))
  try simp only [Act.put, List.setIfInBounds_toArray, List.set_cons_zero, List.set_cons_succ]
  refine wpAnyH_take (i := 3) (oi := { dst := some 8, op := Op.load 29 (Operand.tmp 7), type := 29, pos := "page.go:107", after := #[{ on := 2, ground := Ground.data }], guard := none }) (v := ?vv4) rfl (by kernel_rfl) (by kernel_rfl) (by kernel_rfl) (fun _ _ _ h => h) ?hy4 (by assumption) ?rest4
  case hy4 => (refine Or.inl ⟨by rfl, ?_⟩; intro W hSw; (try dsimp only at hSw); go_simp; (try with_reducible rfl))
  try simp only [Act.put, List.setIfInBounds_toArray, List.set_cons_zero, List.set_cons_succ]
  refine wpAnyH_take (i := 4) (oi := { dst := some 9, op := Op.move (Operand.tmp 0), type := 3, pos := "page.go:107", after := #[], guard := none }) (v := ?vv5) rfl (by kernel_rfl) (by kernel_rfl) (by kernel_rfl) (fun _ _ _ h => h) ?hy5 (by assumption) ?rest5
  case hy5 => (refine Or.inl ⟨by rfl, ?_⟩; intro W hSw; (try dsimp only at hSw); go_simp; (try with_reducible rfl))
  try simp only [Act.put, List.setIfInBounds_toArray, List.set_cons_zero, List.set_cons_succ]
  refine wpAnyH_take (i := 5) (oi := { dst := some 10, op := Op.indexAddr 29 (Operand.tmp 8) (Operand.tmp 9), type := 0, pos := "page.go:107", after := #[{ on := 3, ground := Ground.data }, { on := 4, ground := Ground.data }], guard := none }) (v := ?vv6) rfl (by kernel_rfl) (by kernel_rfl) (by kernel_rfl) (fun _ _ _ h => h) ?hy6 (by assumption) ?rest6
  case hy6 => (refine Or.inl ⟨by rfl, ?_⟩; intro W hSw; (try dsimp only at hSw); go_simp; (try with_reducible rfl))
  try simp only [Act.put, List.setIfInBounds_toArray, List.set_cons_zero, List.set_cons_succ]
  refine wpAnyH_take (i := 6) (oi := { dst := some 11, op := Op.load 40 (Operand.tmp 10), type := 40, pos := "page.go:107", after := #[{ on := 5, ground := Ground.data }], guard := none }) (v := ?vv7) rfl (by kernel_rfl) (by kernel_rfl) (by kernel_rfl) (fun _ _ _ h => h) ?hy7 (by assumption) ?rest7
  case hy7 => (refine Or.inl ⟨by rfl, ?_⟩; intro W hSw; (try dsimp only at hSw); go_simp; (try with_reducible rfl))
  try simp only [Act.put, List.setIfInBounds_toArray, List.set_cons_zero, List.set_cons_succ]
  refine wpAnyH_take (i := 7) (oi := { dst := some 12, op := Op.indexAddr 40 (Operand.tmp 11) (Operand.const (Value.int IntKind.i64 0)), type := 0, pos := "page.go:107", after := #[{ on := 6, ground := Ground.data }], guard := none }) (v := (.pointer (some ⟨a.g, a.o, none⟩))) rfl (by kernel_rfl) (by kernel_rfl) (by kernel_rfl) (fun _ _ _ h => h) ?hy8 (by assumption) ?rest8
  case hy8 => ((refine Or.inl ⟨by rfl, ?_⟩; intro W hSw; (try dsimp only at hSw); go_simp))
  try simp only [Act.put, List.setIfInBounds_toArray, List.set_cons_zero, List.set_cons_succ]
  refine wpAnyH_take (i := 8) (oi := { dst := some 13, op := Op.fieldAddr 42 (Operand.tmp 12) 0, type := 0, pos := "page.go:107", after := #[{ on := 7, ground := Ground.data }], guard := none }) (v := ?vv9) rfl (by kernel_rfl) (by kernel_rfl) (by kernel_rfl) (fun _ _ _ h => h) ?hy9 (by assumption) ?rest9
  case hy9 => (refine Or.inl ⟨by rfl, ?_⟩; intro W hSw; (try dsimp only at hSw); go_simp; (try with_reducible rfl))
  try simp only [Act.put, List.setIfInBounds_toArray, List.set_cons_zero, List.set_cons_succ]
  refine wpAnyH_take (i := 9) (oi := { dst := some 14, op := Op.load 9 (Operand.tmp 13), type := 9, pos := "page.go:107", after := #[{ on := 8, ground := Ground.data }], guard := none }) (v := ?vv10) rfl (by kernel_rfl) (by kernel_rfl) (by kernel_rfl) (fun _ _ _ h => h) ?hy10 (by assumption) ?rest10
  case hy10 => (refine Or.inl ⟨by rfl, ?_⟩; intro W hSw; (try dsimp only at hSw); go_simp; (try with_reducible rfl))
  try simp only [Act.put, List.setIfInBounds_toArray, List.set_cons_zero, List.set_cons_succ]
  refine wpAnyH_take (i := 10) (oi := { dst := some 15, op := Op.load 9 (Operand.tmp 2), type := 9, pos := "page.go:107", after := #[], guard := none }) (v := ?vv11) rfl (by kernel_rfl) (by kernel_rfl) (by kernel_rfl) (fun _ _ _ h => h) ?hy11 (by assumption) ?rest11
  case hy11 => (refine Or.inl ⟨by rfl, ?_⟩; intro W hSw; (try dsimp only at hSw); go_simp; (try with_reducible rfl))
  try simp only [Act.put, List.setIfInBounds_toArray, List.set_cons_zero, List.set_cons_succ]
  refine wpAnyH_take (i := 11) (oi := { dst := some 16, op := Op.binOp BinOp.gtr 9 (Operand.tmp 14) (Operand.tmp 15) 9, type := 4, pos := "page.go:107", after := #[{ on := 9, ground := Ground.data }, { on := 10, ground := Ground.data }], guard := none }) (v := (.bool (decide (k < x.k)))) rfl (by kernel_rfl) (by kernel_rfl) (by kernel_rfl) (fun _ _ _ h => h) ?hy12 (by assumption) ?rest12
  case hy12 => ((refine Or.inl ⟨by rfl, ?_⟩; intro W hSw; (try dsimp only at hSw); go_simp; rw [gtr_text]))
  try simp only [Act.put, List.setIfInBounds_toArray, List.set_cons_zero, List.set_cons_succ]
  refine wpAnyH_take (i := 12) (oi := { dst := some 4, op := Op.assign (Operand.tmp 16), type := 4, pos := "page.go:107", after := #[{ on := 11, ground := Ground.data }, { on := 0, ground := Ground.phase }, { on := 1, ground := Ground.phase }, { on := 2, ground := Ground.phase }, { on := 3, ground := Ground.phase }, { on := 4, ground := Ground.phase }, { on := 5, ground := Ground.phase }, { on := 6, ground := Ground.phase }, { on := 7, ground := Ground.phase }, { on := 8, ground := Ground.phase }, { on := 9, ground := Ground.phase }, { on := 10, ground := Ground.phase }, { on := 11, ground := Ground.phase }], guard := none }) (v := ?vv13) rfl (by kernel_rfl) (by kernel_rfl) (by kernel_rfl) (fun _ _ _ h => h) ?hy13 (by assumption) ?rest13
  case hy13 => (refine Or.inl ⟨by rfl, ?_⟩; intro W hSw; (try dsimp only at hSw); go_simp; (try with_reducible rfl))
  try simp only [Act.put, List.setIfInBounds_toArray, List.set_cons_zero, List.set_cons_succ]
  refine wpAnyH_done (by kernel_rfl) ?_ _
  clear hHeld
  dsimp only [onlyN]
  go_wp2_with fail
  go_ret
  exact ⟨by simp, rfl⟩
set_option maxRecDepth 100000 in
set_option maxHeartbeats 4000000 in
/-- The place of a key. -/
theorem find_any {w : World} {s most : Nat} {v : Value} {L : List Pl} {P : List (List Row)} {k : K} (h : St w s most v L P) (hF : Fine most P) :
    Calls Tryz.prog 45 #[.pointer (some ⟨s, 0, none⟩), strV k] w fun e w' => e = .returned (.tuple #[.int .i64 (findP P k).1, .int .i64 (findP P k).2.1, .bool (findP P k).2.2]) ∧ Below w.heap.size w w' := by
  obtain ⟨A, cap, ev, hc1, hc2, _⟩ := h.row.form
  subst ev
  unfold maxLen at hc2
  have hl := hF.len
  have hlI : (P.length : Int) ≤ 256 := by omega
  have hkv : strV k = .string ⟨k.toArray⟩ := rfl
  rw [hkv]
  have hb1 := below_new (w := w) (.cells #[.pointer (some ⟨s, 0, none⟩)] 23)
  obtain ⟨W2, hW2⟩ : ∃ W2, W2 = (w.alloc (.cells #[.pointer (some ⟨s, 0, none⟩)] 23)).alloc (.cells #[.string ⟨k.toArray⟩] 9) := ⟨_, rfl⟩
  have hs2 : W2.heap.size = w.heap.size + 2 := by rw [hW2, asz, asz]
  have hb2 : Below w.heap.size w W2 := by rw [hW2]; exact hb1.trans ((below_new _).mono (by rw [asz]; omega))
  have h2 := h.below hb2
  have k0 : W2.cell? ⟨w.heap.size, 0, none⟩ = some (.pointer (some ⟨s, 0, none⟩)) := by
    rw [hW2, World.cell?_of_block (a := ⟨w.heap.size, 0, none⟩) (Below.heap_alloc _ _ _ (by show w.heap.size < _; rw [asz]; omega))]
    exact cell_of (alloc_at w _) 0
  have k1 : W2.cell? ⟨w.heap.size + 1, 0, none⟩ = some (.string ⟨k.toArray⟩) := by
    have := cell_of (alloc_at (w.alloc (.cells #[.pointer (some ⟨s, 0, none⟩)] 23)) (.cells #[.string ⟨k.toArray⟩] 9)) 0
    rw [asz] at this
    rw [hW2]
    exact this
  have kp : W2.cell? ⟨s, 1, none⟩ = some (.slice A P.length cap) := cell_of h2.head 1
  have hP : P = [] ∨ 0 < P.length := by
    cases P with
    | nil => exact .inl rfl
    | cons => exact .inr (by simp)
  rcases hP with rfl | hP
  · clear hkv h h2 k0 k1 hF
    subst hW2
    have HB2 := Lib.hid hb2
    clear hb2 hb1 hs2
    go_enter Tryz.func45, Tryz.ntmps45
    go_wp2_with fail
    refine bodyPost_ret (v := .tuple #[.int .i64 0, .int .i64 0, .bool false]) (by simp [results, Tryz.results45, go_sem]) rfl ?_
    exact ⟨rfl, HB2.out⟩
  · have hS := Any.sort_Search Tryz.searchA 69 #[.pointer (some ⟨w.heap.size, 0, none⟩), .pointer (some ⟨w.heap.size + 1, 0, none⟩)] P.length (fun i => aheadP P k i) W2 (enters_of Tryz.func69 (by kernel_rfl) rfl) (by omega) (fun m os i hi => by
      have hbg := below_grown_drew W2 m os
      have hp : P[i]? = some P[i] := List.getElem?_eq_getElem hi
      generalize P[i] = p at hp
      obtain ⟨_, hp1, _⟩ := hF.page hp
      cases p with
      | nil => simp at hp1
      | cons x p =>
        refine (ask_any (h2.below hbg) ((hbg.cell (p := ⟨w.heap.size, 0, none⟩) (by rw [hs2]; show w.heap.size < _; omega)).trans k0) ((hbg.cell (p := ⟨w.heap.size + 1, 0, none⟩) (by rw [hs2]; show w.heap.size + 1 < _; omega)).trans k1) hp hl).mono ?_
        rintro e w' ⟨rfl, rfl⟩
        refine ⟨?_, 1, #[], (grow_nil _).symm⟩
        have : aheadP P k i = decide (k < x.k) := by unfold aheadP; rw [hp]
        rw [this]) (fun a b hab hb ha => over_mono hF a b hab hb ha)
    have HS : Hid (Calls Tryz.prog 68 #[.int .i64 P.length, .func (.func 69) #[] #[.pointer (some ⟨w.heap.size, 0, none⟩), .pointer (some ⟨w.heap.size + 1, 0, none⟩)]] W2 fun e w' => e = .returned (.int .i64 (aboveP P k : Nat)) ∧ ∃ q os, w' = grow (W2.drewN q) os) := Lib.hid hS
    have hpl := page_lt (k := k) hP
    have hp : P[pageP P k]? = some P[pageP P k] := List.getElem?_eq_getElem hpl
    generalize P[pageP P k] = p at hp
    obtain ⟨hr, hp1, hp2⟩ := hF.page hp
    have hfp : findP P k = (pageP P k, lowP p k, hasP p k) := by unfold findP; rw [hp]
    have hab := above_le P k
    have HFP := Lib.hid hfp
    have HPG : Hid (pageP P k = aboveP P k - 1) := Lib.hid rfl
    generalize pageP P k = i at hpl hp HFP HPG
    generalize aboveP P k = n at HS hab HPG
    have HROW := Lib.hid (fun W (hb : Below W2.heap.size W2 W) => row_page (h2.below hb) hp)
    have HSE := Lib.hid (fun (W : World) (a : Pl) (hA : Area W 2 a.g a.o a.cap (pgC p)) (hc : p.length ≤ a.cap) => search_any (k := k) hA hr hc (by omega))
    simp only [strV] at HSE
    have HB2 := Lib.hid hb2
    have K0 := Lib.hid k0
    have K1 := Lib.hid k1
    have hPI : (0 : Int) < (P.length : Int) := by omega
    have hq0 : ((P.length : Int) == 0) = false := by rw [beq_eq_false_iff_ne]; omega
    have hnI : (n : Int) ≤ 256 := by omega
    have HN := Lib.hid hab
    clear hS h hF h2 hr hp hfp hkv k0 k1 hb1 hb2 hs2
    subst hW2
    go_enter Tryz.func45, Tryz.ntmps45
    go_wp2_with fail
    refine (HS.out).mono ?_
    rintro e w2 ⟨rfl, q, os, rfl⟩
    have hb3 := below_grown_drew ((w.alloc (.cells #[.pointer (some ⟨s, 0, none⟩)] 23)).alloc (.cells #[.string ⟨k.toArray⟩] 9)) q os
    obtain ⟨a, g, c, ha, ev, hc3, hc4, kc, hA, hac⟩ := HROW.out _ hb3
    injection ev with ev1 _ ev3
    subst ev1 ev3
    have HB3 := Lib.hid (HB2.out.trans (hb3.mono HB2.out.size))
    have hmx := hA.max
    unfold maxLen at hmx
    have ks := (hb3.cell (p := ⟨s, 1, none⟩) (World.block_lt_of_cell? _ _ kp)).trans kp
    generalize grow (((w.alloc (.cells #[.pointer (some ⟨s, 0, none⟩)] 23)).alloc (.cells #[.string ⟨k.toArray⟩] 9)).drewN q) os = w3 at *
    have k0 : w3.cell? ⟨w.heap.size, 0, none⟩ = some (.pointer (some ⟨s, 0, none⟩)) := (hb3.cell (p := ⟨w.heap.size, 0, none⟩) (World.block_lt_of_cell? _ _ K0.out)).trans K0.out
    have k1 : w3.cell? ⟨w.heap.size + 1, 0, none⟩ = some (.string ⟨k.toArray⟩) := (hb3.cell (p := ⟨w.heap.size + 1, 0, none⟩) (World.block_lt_of_cell? _ _ K1.out)).trans K1.out
    have HC : Hid (∀ W, Below w3.heap.size w3 W → W.cell? ⟨w.heap.size, 0, none⟩ = some (.pointer (some ⟨s, 0, none⟩)) ∧ W.cell? ⟨w.heap.size + 1, 0, none⟩ = some (.string ⟨k.toArray⟩) ∧ W.cell? ⟨s, 1, none⟩ = some (.slice (some ⟨g, 0, none⟩) P.length cap) ∧ W.cell? ⟨g, i, none⟩ = some (.slice (some ⟨a.g, a.o, none⟩) p.length a.cap)) := Lib.hid (fun W hW => ⟨(hW.cell (p := ⟨w.heap.size, 0, none⟩) (World.block_lt_of_cell? _ _ k0)).trans k0, (hW.cell (p := ⟨w.heap.size + 1, 0, none⟩) (World.block_lt_of_cell? _ _ k1)).trans k1, (hW.cell (p := ⟨s, 1, none⟩) (World.block_lt_of_cell? _ _ ks)).trans ks, (hW.cell (p := ⟨g, i, none⟩) (World.block_lt_of_cell? _ _ kc)).trans kc⟩)
    have HSS := Lib.hid (fun W (hb : Below w3.heap.size w3 W) => HSE.out W a (hA.below hb) hac)
    have hiI : (i : Int) < (P.length : Int) := by omega
    clear HSE HROW HS hb3 hA HB2 K0 K1
    by_cases hn0 : n = 0
    · have hi0 : i = 0 := by have := HPG.out; omega
      have hmax : max (-1 : Int) 0 = 0 := by decide
      subst hn0 hi0
      go_wp2_with fail
      refine wp_only ?_
      refine wp_region_held_drew (S := fun W => W.cell? ⟨w.heap.size, 0, none⟩ = some (.pointer (some ⟨s, 0, none⟩)) ∧ W.cell? ⟨w.heap.size + 1, 0, none⟩ = some (.string ⟨k.toArray⟩) ∧ W.cell? ⟨s, 1, none⟩ = some (.slice (some ⟨g, 0, none⟩) P.length cap) ∧ W.cell? ⟨g, 0, none⟩ = some (.slice (some ⟨a.g, a.o, none⟩) p.length a.cap)) (by kernel_rfl) (HC.out _ (below_drew (Below.refl _ _))) (fun hHeld => ?_)
      clear k0 k1 ks kc
      refine wpAnyH_take (i := 0) (oi := { dst := some 25, op := Op.load 23 (Operand.tmp 2), type := 23, pos := "page.go:109", after := #[], guard := none }) (v := ?vv14) rfl (by kernel_rfl) (by kernel_rfl) (by kernel_rfl) (fun _ _ _ h => h) ?hy14 (by assumption) ?rest14
      case hy14 => (refine Or.inl ⟨by rfl, ?_⟩; intro W hSw; (try dsimp only at hSw); go_simp; (try with_reducible rfl))
      try simp only [Act.put, List.setIfInBounds_toArray, List.set_cons_zero, List.set_cons_succ]
      refine wpAnyH_take (i := 1) (oi := { dst := some 26, op := Op.nilCheck (Operand.tmp 25), type := 0, pos := "page.go:109", after := #[{ on := 0, ground := Ground.data }], guard := none }) (v := ?vv15) rfl (by kernel_rfl) (by kernel_rfl) (by kernel_rfl) (fun _ _ _ h => h) ?hy15 (by assumption) ?rest15
      case hy15 => (refine Or.inl ⟨by rfl, ?_⟩; intro W hSw; (try dsimp only at hSw); go_simp; (try with_reducible rfl))
      try simp only [Act.put, List.setIfInBounds_toArray, List.set_cons_zero, List.set_cons_succ]
      refine wpAnyH_take (i := 2) (oi := { dst := some 27, op := Op.fieldAddr 64 (Operand.tmp 26) 1, type := 0, pos := "page.go:109", after := #[{ on := 1, ground := Ground.data }], guard := none }) (v := ?vv16) rfl (by kernel_rfl) (by kernel_rfl) (by kernel_rfl) (fun _ _ _ h => h) ?hy16 (by assumption) ?rest16
      case hy16 => (refine Or.inl ⟨by rfl, ?_⟩; intro W hSw; (try dsimp only at hSw); go_simp; (try with_reducible rfl))
      try simp only [Act.put, List.setIfInBounds_toArray, List.set_cons_zero, List.set_cons_succ]
      refine wpAnyH_take (i := 3) (oi := { dst := some 28, op := Op.load 29 (Operand.tmp 27), type := 29, pos := "page.go:109", after := #[{ on := 2, ground := Ground.data }], guard := none }) (v := ?vv17) rfl (by kernel_rfl) (by kernel_rfl) (by kernel_rfl) (fun _ _ _ h => h) ?hy17 (by assumption) ?rest17
      case hy17 => (refine Or.inl ⟨by rfl, ?_⟩; intro W hSw; (try dsimp only at hSw); go_simp; (try with_reducible rfl))
      try simp only [Act.put, List.setIfInBounds_toArray, List.set_cons_zero, List.set_cons_succ]
      refine wpAnyH_take (i := 4) (oi := { dst := some 29, op := Op.move (Operand.tmp 4), type := 3, pos := "page.go:109", after := #[], guard := none }) (v := ?vv18) rfl (by kernel_rfl) (by kernel_rfl) (by kernel_rfl) (fun _ _ _ h => h) ?hy18 (by assumption) ?rest18
      case hy18 => (refine Or.inl ⟨by rfl, ?_⟩; intro W hSw; (try dsimp only at hSw); go_simp; (try with_reducible rfl))
      try simp only [Act.put, List.setIfInBounds_toArray, List.set_cons_zero, List.set_cons_succ]
      refine wpAnyH_take (i := 5) (oi := { dst := some 30, op := Op.indexAddr 29 (Operand.tmp 28) (Operand.tmp 29), type := 0, pos := "page.go:109", after := #[{ on := 3, ground := Ground.data }, { on := 4, ground := Ground.data }], guard := none }) (v := ?vv19) rfl (by kernel_rfl) (by kernel_rfl) (by kernel_rfl) (fun _ _ _ h => h) ?hy19 (by assumption) ?rest19
      case hy19 => (refine Or.inl ⟨by rfl, ?_⟩; intro W hSw; (try dsimp only at hSw); go_simp; (try with_reducible rfl))
      try simp only [Act.put, List.setIfInBounds_toArray, List.set_cons_zero, List.set_cons_succ]
      refine wpAnyH_take (i := 6) (oi := { dst := some 31, op := Op.load 40 (Operand.tmp 30), type := 40, pos := "page.go:109", after := #[{ on := 5, ground := Ground.data }], guard := none }) (v := ?vv20) rfl (by kernel_rfl) (by kernel_rfl) (by kernel_rfl) (fun _ _ _ h => h) ?hy20 (by assumption) ?rest20
      case hy20 => (refine Or.inl ⟨by rfl, ?_⟩; intro W hSw; (try dsimp only at hSw); go_simp; (try with_reducible rfl))
      try simp only [Act.put, List.setIfInBounds_toArray, List.set_cons_zero, List.set_cons_succ]
      refine wpAnyH_take (i := 7) (oi := { dst := some 32, op := Op.load 9 (Operand.tmp 3), type := 9, pos := "page.go:109", after := #[], guard := none }) (v := ?vv21) rfl (by kernel_rfl) (by kernel_rfl) (by kernel_rfl) (fun _ _ _ h => h) ?hy21 (by assumption) ?rest21
      case hy21 => (refine Or.inl ⟨by rfl, ?_⟩; intro W hSw; (try dsimp only at hSw); go_simp; (try with_reducible rfl))
      try simp only [Act.put, List.setIfInBounds_toArray, List.set_cons_zero, List.set_cons_succ]
      refine wpAnyH_ready (rs := [8]) (by kernel_rfl) (by simp) ?_
      refine AllReadyH.cons (o := { dst := some 33, op := Op.call { callee := Callee.value (Operand.func 70), args := #[Operand.tmp 31, Operand.tmp 32, Operand.func 71], argTypes := #[40, 9, 122] }, type := 119, pos := "page.go:109", after := #[{ on := 6, ground := Ground.data }, { on := 7, ground := Ground.data }], guard := none }) rfl (fun K hK => ?step22) ?more22
      case more22 => exact AllReadyH.nil
      ((go_simp; go_at_call 70; refine (HSS.out _ (below_drew (Below.refl _ _))).mono ?_; rintro e w4 ⟨rfl, hb4⟩; have HB4 := Lib.hid (below_of_drew hb4); clear hb4; go_wp2_with fail))
      refine hK.out _ _ ?hS22 (fun hHeld => ?rr22)
      case hS22 => (exact HC.out _ HB4.out)
      clear hK K
      try simp only [Act.put, List.setIfInBounds_toArray, List.set_cons_zero, List.set_cons_succ]
      refine wpAnyH_take (i := 9) (oi := { dst := some 24, op := Op.move (Operand.tmp 33), type := 119, pos := "page.go:109", after := #[{ on := 8, ground := Ground.data }], guard := none }) (v := ?vv23) rfl (by kernel_rfl) (by kernel_rfl) (by kernel_rfl) (fun _ _ _ h => h) ?hy23 (by assumption) ?rest23
      case hy23 => (refine Or.inl ⟨by rfl, ?_⟩; intro W hSw; (try dsimp only at hSw); go_simp; (try with_reducible rfl))
      try simp only [Act.put, List.setIfInBounds_toArray, List.set_cons_zero, List.set_cons_succ]
      refine wpAnyH_take (i := 10) (oi := { dst := some 34, op := Op.extract (Operand.tmp 24) 0, type := 3, pos := "page.go:109", after := #[{ on := 9, ground := Ground.data }], guard := none }) (v := ?vv24) rfl (by kernel_rfl) (by kernel_rfl) (by kernel_rfl) (fun _ _ _ h => h) ?hy24 (by assumption) ?rest24
      case hy24 => (refine Or.inl ⟨by rfl, ?_⟩; intro W hSw; (try dsimp only at hSw); go_simp; (try with_reducible rfl))
      try simp only [Act.put, List.setIfInBounds_toArray, List.set_cons_zero, List.set_cons_succ]
      refine wpAnyH_take (i := 11) (oi := { dst := some 35, op := Op.extract (Operand.tmp 24) 1, type := 4, pos := "page.go:109", after := #[{ on := 9, ground := Ground.data }, { on := 12, ground := Ground.gcOnly Departure.lateStores }], guard := none }) (v := ?vv25) rfl (by kernel_rfl) (by kernel_rfl) (by kernel_rfl) (fun _ _ _ h => h) ?hy25 (by assumption) ?rest25
      case hy25 => (refine Or.inl ⟨by rfl, ?_⟩; intro W hSw; (try dsimp only at hSw); go_simp; (try with_reducible rfl))
      try simp only [Act.put, List.setIfInBounds_toArray, List.set_cons_zero, List.set_cons_succ]
      refine wpAnyH_take (i := 12) (oi := { dst := some 5, op := Op.assign (Operand.tmp 34), type := 3, pos := "page.go:109", after := #[{ on := 10, ground := Ground.data }, { on := 8, ground := Ground.chain }, { on := 0, ground := Ground.phase }, { on := 1, ground := Ground.phase }, { on := 2, ground := Ground.phase }, { on := 3, ground := Ground.phase }, { on := 4, ground := Ground.phase }, { on := 5, ground := Ground.phase }, { on := 6, ground := Ground.phase }, { on := 7, ground := Ground.phase }, { on := 8, ground := Ground.phase }, { on := 9, ground := Ground.phase }, { on := 10, ground := Ground.phase }, { on := 11, ground := Ground.textOnly Departure.lateStores }], guard := none }) (v := ?vv26) rfl (by kernel_rfl) (by kernel_rfl) (by kernel_rfl) (fun _ _ _ h => h) ?hy26 (by assumption) ?rest26
      case hy26 => (refine Or.inl ⟨by rfl, ?_⟩; intro W hSw; (try dsimp only at hSw); go_simp; (try with_reducible rfl))
      try simp only [Act.put, List.setIfInBounds_toArray, List.set_cons_zero, List.set_cons_succ]
      refine wpAnyH_take (i := 13) (oi := { dst := some 6, op := Op.assign (Operand.tmp 35), type := 4, pos := "page.go:109", after := #[{ on := 11, ground := Ground.data }, { on := 12, ground := Ground.chain }, { on := 0, ground := Ground.phase }, { on := 1, ground := Ground.phase }, { on := 2, ground := Ground.phase }, { on := 3, ground := Ground.phase }, { on := 4, ground := Ground.phase }, { on := 5, ground := Ground.phase }, { on := 6, ground := Ground.phase }, { on := 7, ground := Ground.phase }, { on := 8, ground := Ground.phase }, { on := 9, ground := Ground.phase }, { on := 10, ground := Ground.phase }, { on := 11, ground := Ground.phase }, { on := 12, ground := Ground.phase }], guard := none }) (v := ?vv27) rfl (by kernel_rfl) (by kernel_rfl) (by kernel_rfl) (fun _ _ _ h => h) ?hy27 (by assumption) ?rest27
      case hy27 => (refine Or.inl ⟨by rfl, ?_⟩; intro W hSw; (try dsimp only at hSw); go_simp; (try with_reducible rfl))
      try simp only [Act.put, List.setIfInBounds_toArray, List.set_cons_zero, List.set_cons_succ]
      refine wpAnyH_done (by kernel_rfl) ?_ _
      clear hHeld HC
      dsimp only [onlyN]
      go_wp2_with fail
      refine bodyPost_ret (v := .tuple #[(.int .i64 0), .int .i64 (lowP p k), .bool (hasP p k)]) (by simp [results, Tryz.results45, go_sem]) rfl ?_
      exact ⟨by rw [HFP.out]; rfl, HB3.out.trans (HB4.out.mono HB3.out.size)⟩
    · have hi : ((n : Int) - 1) = (i : Int) := by have := HPG.out; omega
      go_wp2_with fail
      refine wp_only ?_
      refine wp_region_held_drew (S := fun W => W.cell? ⟨w.heap.size, 0, none⟩ = some (.pointer (some ⟨s, 0, none⟩)) ∧ W.cell? ⟨w.heap.size + 1, 0, none⟩ = some (.string ⟨k.toArray⟩) ∧ W.cell? ⟨s, 1, none⟩ = some (.slice (some ⟨g, 0, none⟩) P.length cap) ∧ W.cell? ⟨g, i, none⟩ = some (.slice (some ⟨a.g, a.o, none⟩) p.length a.cap)) (by kernel_rfl) (HC.out _ (below_drew (Below.refl _ _))) (fun hHeld => ?_)
      clear k0 k1 ks kc
      refine wpAnyH_take (i := 0) (oi := { dst := some 25, op := Op.load 23 (Operand.tmp 2), type := 23, pos := "page.go:109", after := #[], guard := none }) (v := ?vv28) rfl (by kernel_rfl) (by kernel_rfl) (by kernel_rfl) (fun _ _ _ h => h) ?hy28 (by assumption) ?rest28
      case hy28 => (refine Or.inl ⟨by rfl, ?_⟩; intro W hSw; (try dsimp only at hSw); go_simp; (try with_reducible rfl))
      try simp only [Act.put, List.setIfInBounds_toArray, List.set_cons_zero, List.set_cons_succ]
      refine wpAnyH_take (i := 1) (oi := { dst := some 26, op := Op.nilCheck (Operand.tmp 25), type := 0, pos := "page.go:109", after := #[{ on := 0, ground := Ground.data }], guard := none }) (v := ?vv29) rfl (by kernel_rfl) (by kernel_rfl) (by kernel_rfl) (fun _ _ _ h => h) ?hy29 (by assumption) ?rest29
      case hy29 => (refine Or.inl ⟨by rfl, ?_⟩; intro W hSw; (try dsimp only at hSw); go_simp; (try with_reducible rfl))
      try simp only [Act.put, List.setIfInBounds_toArray, List.set_cons_zero, List.set_cons_succ]
      refine wpAnyH_take (i := 2) (oi := { dst := some 27, op := Op.fieldAddr 64 (Operand.tmp 26) 1, type := 0, pos := "page.go:109", after := #[{ on := 1, ground := Ground.data }], guard := none }) (v := ?vv30) rfl (by kernel_rfl) (by kernel_rfl) (by kernel_rfl) (fun _ _ _ h => h) ?hy30 (by assumption) ?rest30
      case hy30 => (refine Or.inl ⟨by rfl, ?_⟩; intro W hSw; (try dsimp only at hSw); go_simp; (try with_reducible rfl))
      try simp only [Act.put, List.setIfInBounds_toArray, List.set_cons_zero, List.set_cons_succ]
      refine wpAnyH_take (i := 3) (oi := { dst := some 28, op := Op.load 29 (Operand.tmp 27), type := 29, pos := "page.go:109", after := #[{ on := 2, ground := Ground.data }], guard := none }) (v := ?vv31) rfl (by kernel_rfl) (by kernel_rfl) (by kernel_rfl) (fun _ _ _ h => h) ?hy31 (by assumption) ?rest31
      case hy31 => (refine Or.inl ⟨by rfl, ?_⟩; intro W hSw; (try dsimp only at hSw); go_simp; (try with_reducible rfl))
      try simp only [Act.put, List.setIfInBounds_toArray, List.set_cons_zero, List.set_cons_succ]
      refine wpAnyH_take (i := 4) (oi := { dst := some 29, op := Op.move (Operand.tmp 4), type := 3, pos := "page.go:109", after := #[], guard := none }) (v := ?vv32) rfl (by kernel_rfl) (by kernel_rfl) (by kernel_rfl) (fun _ _ _ h => h) ?hy32 (by assumption) ?rest32
      case hy32 => (refine Or.inl ⟨by rfl, ?_⟩; intro W hSw; (try dsimp only at hSw); go_simp; (try with_reducible rfl))
      try simp only [Act.put, List.setIfInBounds_toArray, List.set_cons_zero, List.set_cons_succ]
      refine wpAnyH_take (i := 5) (oi := { dst := some 30, op := Op.indexAddr 29 (Operand.tmp 28) (Operand.tmp 29), type := 0, pos := "page.go:109", after := #[{ on := 3, ground := Ground.data }, { on := 4, ground := Ground.data }], guard := none }) (v := ?vv33) rfl (by kernel_rfl) (by kernel_rfl) (by kernel_rfl) (fun _ _ _ h => h) ?hy33 (by assumption) ?rest33
      case hy33 => (refine Or.inl ⟨by rfl, ?_⟩; intro W hSw; (try dsimp only at hSw); go_simp; (try with_reducible rfl))
      try simp only [Act.put, List.setIfInBounds_toArray, List.set_cons_zero, List.set_cons_succ]
      refine wpAnyH_take (i := 6) (oi := { dst := some 31, op := Op.load 40 (Operand.tmp 30), type := 40, pos := "page.go:109", after := #[{ on := 5, ground := Ground.data }], guard := none }) (v := ?vv34) rfl (by kernel_rfl) (by kernel_rfl) (by kernel_rfl) (fun _ _ _ h => h) ?hy34 (by assumption) ?rest34
      case hy34 => (refine Or.inl ⟨by rfl, ?_⟩; intro W hSw; (try dsimp only at hSw); go_simp; (try with_reducible rfl))
      try simp only [Act.put, List.setIfInBounds_toArray, List.set_cons_zero, List.set_cons_succ]
      refine wpAnyH_take (i := 7) (oi := { dst := some 32, op := Op.load 9 (Operand.tmp 3), type := 9, pos := "page.go:109", after := #[], guard := none }) (v := ?vv35) rfl (by kernel_rfl) (by kernel_rfl) (by kernel_rfl) (fun _ _ _ h => h) ?hy35 (by assumption) ?rest35
      case hy35 => (refine Or.inl ⟨by rfl, ?_⟩; intro W hSw; (try dsimp only at hSw); go_simp; (try with_reducible rfl))
      try simp only [Act.put, List.setIfInBounds_toArray, List.set_cons_zero, List.set_cons_succ]
      refine wpAnyH_ready (rs := [8]) (by kernel_rfl) (by simp) ?_
      refine AllReadyH.cons (o := { dst := some 33, op := Op.call { callee := Callee.value (Operand.func 70), args := #[Operand.tmp 31, Operand.tmp 32, Operand.func 71], argTypes := #[40, 9, 122] }, type := 119, pos := "page.go:109", after := #[{ on := 6, ground := Ground.data }, { on := 7, ground := Ground.data }], guard := none }) rfl (fun K hK => ?step36) ?more36
      case more36 => exact AllReadyH.nil
      ((go_simp; go_at_call 70; refine (HSS.out _ (below_drew (Below.refl _ _))).mono ?_; rintro e w4 ⟨rfl, hb4⟩; have HB4 := Lib.hid (below_of_drew hb4); clear hb4; go_wp2_with fail))
      refine hK.out _ _ ?hS36 (fun hHeld => ?rr36)
      case hS36 => (exact HC.out _ HB4.out)
      clear hK K
      try simp only [Act.put, List.setIfInBounds_toArray, List.set_cons_zero, List.set_cons_succ]
      refine wpAnyH_take (i := 9) (oi := { dst := some 24, op := Op.move (Operand.tmp 33), type := 119, pos := "page.go:109", after := #[{ on := 8, ground := Ground.data }], guard := none }) (v := ?vv37) rfl (by kernel_rfl) (by kernel_rfl) (by kernel_rfl) (fun _ _ _ h => h) ?hy37 (by assumption) ?rest37
      case hy37 => (refine Or.inl ⟨by rfl, ?_⟩; intro W hSw; (try dsimp only at hSw); go_simp; (try with_reducible rfl))
      try simp only [Act.put, List.setIfInBounds_toArray, List.set_cons_zero, List.set_cons_succ]
      refine wpAnyH_take (i := 10) (oi := { dst := some 34, op := Op.extract (Operand.tmp 24) 0, type := 3, pos := "page.go:109", after := #[{ on := 9, ground := Ground.data }], guard := none }) (v := ?vv38) rfl (by kernel_rfl) (by kernel_rfl) (by kernel_rfl) (fun _ _ _ h => h) ?hy38 (by assumption) ?rest38
      case hy38 => (refine Or.inl ⟨by rfl, ?_⟩; intro W hSw; (try dsimp only at hSw); go_simp; (try with_reducible rfl))
      try simp only [Act.put, List.setIfInBounds_toArray, List.set_cons_zero, List.set_cons_succ]
      refine wpAnyH_take (i := 11) (oi := { dst := some 35, op := Op.extract (Operand.tmp 24) 1, type := 4, pos := "page.go:109", after := #[{ on := 9, ground := Ground.data }, { on := 12, ground := Ground.gcOnly Departure.lateStores }], guard := none }) (v := ?vv39) rfl (by kernel_rfl) (by kernel_rfl) (by kernel_rfl) (fun _ _ _ h => h) ?hy39 (by assumption) ?rest39
      case hy39 => (refine Or.inl ⟨by rfl, ?_⟩; intro W hSw; (try dsimp only at hSw); go_simp; (try with_reducible rfl))
      try simp only [Act.put, List.setIfInBounds_toArray, List.set_cons_zero, List.set_cons_succ]
      refine wpAnyH_take (i := 12) (oi := { dst := some 5, op := Op.assign (Operand.tmp 34), type := 3, pos := "page.go:109", after := #[{ on := 10, ground := Ground.data }, { on := 8, ground := Ground.chain }, { on := 0, ground := Ground.phase }, { on := 1, ground := Ground.phase }, { on := 2, ground := Ground.phase }, { on := 3, ground := Ground.phase }, { on := 4, ground := Ground.phase }, { on := 5, ground := Ground.phase }, { on := 6, ground := Ground.phase }, { on := 7, ground := Ground.phase }, { on := 8, ground := Ground.phase }, { on := 9, ground := Ground.phase }, { on := 10, ground := Ground.phase }, { on := 11, ground := Ground.textOnly Departure.lateStores }], guard := none }) (v := ?vv40) rfl (by kernel_rfl) (by kernel_rfl) (by kernel_rfl) (fun _ _ _ h => h) ?hy40 (by assumption) ?rest40
      case hy40 => (refine Or.inl ⟨by rfl, ?_⟩; intro W hSw; (try dsimp only at hSw); go_simp; (try with_reducible rfl))
      try simp only [Act.put, List.setIfInBounds_toArray, List.set_cons_zero, List.set_cons_succ]
      refine wpAnyH_take (i := 13) (oi := { dst := some 6, op := Op.assign (Operand.tmp 35), type := 4, pos := "page.go:109", after := #[{ on := 11, ground := Ground.data }, { on := 12, ground := Ground.chain }, { on := 0, ground := Ground.phase }, { on := 1, ground := Ground.phase }, { on := 2, ground := Ground.phase }, { on := 3, ground := Ground.phase }, { on := 4, ground := Ground.phase }, { on := 5, ground := Ground.phase }, { on := 6, ground := Ground.phase }, { on := 7, ground := Ground.phase }, { on := 8, ground := Ground.phase }, { on := 9, ground := Ground.phase }, { on := 10, ground := Ground.phase }, { on := 11, ground := Ground.phase }, { on := 12, ground := Ground.phase }], guard := none }) (v := ?vv41) rfl (by kernel_rfl) (by kernel_rfl) (by kernel_rfl) (fun _ _ _ h => h) ?hy41 (by assumption) ?rest41
      case hy41 => (refine Or.inl ⟨by rfl, ?_⟩; intro W hSw; (try dsimp only at hSw); go_simp; (try with_reducible rfl))
      try simp only [Act.put, List.setIfInBounds_toArray, List.set_cons_zero, List.set_cons_succ]
      refine wpAnyH_done (by kernel_rfl) ?_ _
      clear hHeld HC
      dsimp only [onlyN]
      go_wp2_with fail
      refine bodyPost_ret (v := .tuple #[.int .i64 i, .int .i64 (lowP p k), .bool (hasP p k)]) (by simp [results, Tryz.results45, go_sem]) rfl ?_
      exact ⟨by rw [HFP.out], HB3.out.trans (HB4.out.mono HB3.out.size)⟩
end Go.Proofs.YtkkembbeejlomaaGreatDoor
