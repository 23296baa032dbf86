/- order: users in turn: one number each, with all their sites, each once. -/
import Derived.Test.YtlbhpeeggbfcpaaZOrdF
set_option linter.unusedSimpArgs false
set_option linter.unusedVariables false
set_option linter.unnecessarySimpa false
namespace Go.Proofs.Ytlbhpeeggbfcpaa
open Go.RowKit
open Go.Maps (Keyed)

/-- A slice of numbers, wherever it lies, as what is appended. -/
theorem src_sis {w : World} {v : Value} {l : List Int} (h : SIs w v l) : Src Try.prog 1 30 v l.length (ints l) w := by
  obtain ⟨A, cap, rfl, _, _, h3⟩ := h
  cases A with
  | none =>
    have : l = [] := by
      cases l with
      | nil => rfl
      | cons x r => obtain ⟨a, e, _⟩ := h3 0 x rfl; cases e
    subst this
    exact Src.ofNil _ Try.underlying30 cap
  | some a =>
    refine Src.ofSlice _ Try.underlying30 a l.length cap (ints l) (by rw [ints_len, Nat.mul_one]) (fun j u hu => ?_) (fun u hu => ?_)
    · unfold ints at hu
      rw [List.getElem?_map] at hu
      cases hx : l[j]? with
      | none => rw [hx] at hu; cases hu
      | some x =>
        rw [hx] at hu
        obtain ⟨a', e, _, hc⟩ := h3 j x hx
        cases e
        cases hu
        exact hc
    · unfold ints at hu
      obtain ⟨x, _, rfl⟩ := List.mem_map.1 hu
      rfl
/-- Numbers of a slice are put behind a row of numbers. -/
theorem app_sis {w : World} {v u : Value} {l m : List Int} (ty : TypeId) (h : RowIs w 1 v l.length (ints l)) (hs : SIs w u m) (hl : l.length + m.length ≤ 16777000) : ∃ v' w', (Builtin.append_ #[30, 30] ty #[v, u]).run Try.prog w = .ok v' w' ∧ RowIs w' 1 v' (l ++ m).length (ints (l ++ m)) ∧ Touch (fun k => v.ownBlock = some k) w w' ∧ (∀ k, v'.ownBlock = some k → v.ownBlock = some k ∨ w.heap.size ≤ k) := by
  obtain ⟨v', w', hr, h2, h3, h4⟩ := run_append_row w 30 3 ty 30 Try.underlying30 info3 rfl (by omega) (by omega) v l.length m.length (ints l) (ints m) u h (src_sis hs) (by omega)
  refine ⟨v', w', hr, by rw [List.length_append]; unfold ints at h2 ⊢; rw [List.map_append]; exact h2, (Touch.refl _ _).grown h3 (fun k hk _ => hk), fun k hk => ?_⟩
  rcases h4 with e | e
  · exact .inl (e ▸ hk)
  · right
    rw [e] at hk
    have := Option.some.inj hk
    omega
theorem site_take {T : Gr} {k : Nat} {u : Int × List Int} (h : T[k]? = some u) : siteG (T.take (k + 1)) = putK (siteG (T.take k)) u.1 (at_ (siteG (T.take k)) u.1 ++ u.2) := by
  rw [List.take_add_one, h]
  exact siteG_snoc _ u
theorem site_len {m : Nat} : ∀ T : Gr, (∀ u ∈ T, u.2.length ≤ m) → ∀ x, (at_ (siteG T) x).length ≤ T.length * m := by
  intro T
  refine snoc_ind (p := fun T => (∀ u ∈ T, u.2.length ≤ m) → ∀ x, (at_ (siteG T) x).length ≤ T.length * m) T (fun _ x => by simp [siteG, at_]) (fun T u ih h x => ?_)
  have h1 := ih (fun v hv => h v (List.mem_append_left _ hv)) x
  have h2 := h u (by simp)
  rw [siteG_snoc, at_putK, List.length_append, List.length_singleton, Nat.add_mul]
  split
  · next e => rw [e] at h1; rw [List.length_append]; omega
  · omega
theorem site_few : ∀ T : Gr, (siteG T).length ≤ T.length := by
  intro T
  refine snoc_ind (p := fun T => (siteG T).length ≤ T.length) T (by simp [siteG]) (fun T u ih => ?_)
  rw [siteG_snoc, List.length_append, List.length_singleton]
  unfold putK setK
  split
  · rw [List.length_map]; omega
  · rw [List.length_append, List.length_singleton]; omega
/-- Users in a row of one's own: numbers and slices. -/
def uC (l : List (Int × Value)) : List Value := l.flatMap fun e => [.int .i64 e.1, e.2]
theorem uC_len (l : List (Int × Value)) : (uC l).length = l.length * 2 := by
  induction l with
  | nil => rfl
  | cons x l ih =>
    show (uC l).length + 1 + 1 = (l.length + 1) * 2
    omega
theorem uC_snoc (l : List (Int × Value)) (e : Int × Value) : uC (l ++ [e]) = uC l ++ [.int .i64 e.1, e.2] := by simp [uC]
theorem uC_at : ∀ {l : List (Int × Value)} {i : Nat} {e : Int × Value}, l[i]? = some e → (uC l)[i * 2]? = some (.int .i64 e.1) ∧ (uC l)[i * 2 + 1]? = some e.2
  | x :: l, 0, e, h => by
    have h : x = e := by simpa using h
    subst h
    exact ⟨rfl, rfl⟩
  | x :: l, i + 1, e, h => by
    have h' : l[i]? = some e := by simpa using h
    obtain ⟨h1, h2⟩ := uC_at h'
    have e1 : (i + 1) * 2 = i * 2 + 1 + 1 := by omega
    rw [e1]
    exact ⟨h1, h2⟩
  | [], i, e, h => by simp at h
/-- A row of users is users in memory. -/
theorem uis_row {w : World} {v : Value} {T : Gr} {ss : List (Int × Value)} (h : RowIs w 2 v ss.length (uC ss)) (hl : ss.length = T.length) (hs : ∀ (i : Nat) (e : Int × Value) (u : Int × List Int), ss[i]? = some e → T[i]? = some u → e.1 = u.1 ∧ SIs w e.2 u.2) : UIs w v T := by
  obtain ⟨A, cap, rfl, h1, h2, h3, h4, h5⟩ := h.form
  refine ⟨A, cap, by rw [hl], by omega, h2, fun i u hu => ?_⟩
  have hi : i < ss.length := by rw [hl]; exact (List.getElem?_eq_some_iff.1 hu).1
  have he : ss[i]? = some ss[i] := List.getElem?_eq_getElem hi
  obtain ⟨e1, e2⟩ := hs i _ u he hu
  obtain ⟨c0, c1⟩ := uC_at he
  obtain ⟨g, hA, k0⟩ := h5 _ _ c0
  obtain ⟨g', hA', k1⟩ := h5 _ _ c1
  rw [hA] at hA'
  injection hA' with hA'
  injection hA' with hA'
  subst hA'
  refine ⟨_, _, hA, heap_lt' k0, ?_, ?_, e2⟩
  · rw [add0, ← e1]; exact k0
  · rw [add0]
    have : ((⟨g, i * 2, none⟩ : Addr).add 1) = ⟨g, i * 2 + 1, none⟩ := rfl
    rw [this]
    exact k1
theorem infoU : (Try.prog.info? 61).map (fun i => (i.zero, i.size, i.bytes)) = some (some (.agg #[.int .i64 0, .slice none 0 0]), 2, 32) := by kernel_rfl
theorem two_new (W : World) (n : Nat) (hn : W.heap.size = n) (t : TypeId) (c0 c1 : Value) : ∀ (j : Nat) (u : Value), [c0, c1][j]? = some u → (W.alloc (.cells #[c0, c1] t)).cell? ((⟨n, 0, none⟩ : Addr).add j) = some u := by
  intro j u h
  subst hn
  rw [add0, cell_of_row _ _ _ _ _ _ (heap_alloc_new W _)]
  simpa using h
/-- A user is put at the end of a row of users. -/
theorem app_usr {w : World} {v : Value} {l : List (Int × Value)} (x : Int) (s : Value) (hs1 : s.oneCell' = true) (ty : TypeId) (h : RowIs w 2 v l.length (uC l)) (hl : l.length ≤ 1000000) : ∃ v' w', (Builtin.append_ #[23, 23] ty #[v, .slice (some ⟨w.heap.size, 0, none⟩) 1 1]).run Try.prog (w.alloc (.cells #[.int .i64 x, s] 61)) = .ok v' w' ∧ RowIs w' 2 v' (l ++ [(x, s)]).length (uC (l ++ [(x, s)])) ∧ Touch (fun k => v.ownBlock = some k) w w' ∧ (∀ k, v'.ownBlock = some k → v.ownBlock = some k ∨ w.heap.size ≤ k) := by
  have hb := below_new (w := w) (.cells #[.int .i64 x, s] 61)
  have hsrc : Src Try.prog 2 23 (.slice (some ⟨w.heap.size, 0, none⟩) 1 1) 1 [.int .i64 x, s] (w.alloc (.cells #[.int .i64 x, s] 61)) :=
    Src.ofSlice _ Try.underlying23 ⟨w.heap.size, 0, none⟩ 1 1 [.int .i64 x, s] rfl (two_new _ _ rfl _ _ _) (fun u hu => by
      rcases List.mem_cons.1 hu with rfl | hu
      · rfl
      · rw [List.mem_singleton.1 hu]; exact hs1)
  obtain ⟨v', w', hr, h2, h3, h4⟩ := run_append_row (w.alloc (.cells #[.int .i64 x, s] 61)) 23 61 ty 23 Try.underlying23 infoU rfl (by omega) (by omega) v l.length 1 (uC l) [.int .i64 x, s] _ (h.below hb) hsrc (by omega)
  refine ⟨v', w', hr, by rw [List.length_append, uC_snoc]; exact h2, (Touch.of_below hb).grown h3 (fun k hk _ => hk), fun k hk => ?_⟩
  rcases h4 with e | e
  · exact .inl (e ▸ hk)
  · right
    rw [e] at hk
    have := Option.some.inj hk
    rw [asz] at this
    omega
/-- Users that have been put in turn, k of them; since w1. -/
structure TurI (w1 : World) (G : Gr) (L : List MapEntry) (ns : List Int) (k : Nat) (av : Value) (ss : List (Int × Value)) (wr : World) : Prop where
  t : Touch (fun b => ∃ (j : Nat) (x : Int), j < k ∧ ns[j]? = some x ∧ (vofP G L x).ownBlock = some b) w1 wr
  row : RowIs wr 2 av ss.length (uC ss)
  len : ss.length = k
  each : ∀ (j : Nat) (e : Int × Value), ss[j]? = some e → ns[j]? = some e.1 ∧ RowIs wr 1 e.2 (rises (at_ G e.1)).length (ints (rises (at_ G e.1))) ∧ e.2.ownBlock = (vofP G L e.1).ownBlock
  own : ∀ b, av.ownBlock = some b → w1.heap.size ≤ b
section
variable {w1 wr w2 w3 w4 : World} {b0 g c k : Nat} {G : Gr} {L : List MapEntry} {ns : List Int} {av : Value} {ss : List (Int × Value)}
theorem TurI.start (w1 : World) (G : Gr) (L : List MapEntry) (ns : List Int) : TurI w1 G L ns 0 (.slice none 0 0) [] w1 :=
  ⟨Touch.refl _ _, RowIs.nil _ _, rfl, (fun j e h => by simp at h), fun b e => by cases e⟩
theorem TurI.map (h : TurI w1 G L ns k av ss wr) (hg : GAt Try.prog 3 w1 b0 g G L c) (hk : ∀ x ∈ ns, hasK G x = true) : wr.heap[g]? = w1.heap[g]? :=
  h.t.block g hg.map.lt (fun ⟨j, x, _, hx, e⟩ => ((hg.vof (hk x (List.mem_of_getElem? hx))).2.1 g e).2 rfl)
theorem TurI.val (h : TurI w1 G L ns k av ss wr) (hg : GAt Try.prog 3 w1 b0 g G L c) (hk : ∀ x ∈ ns, hasK G x = true) (hn : ns.Pairwise (· < ·)) {x : Int} (hx : ns[k]? = some x) : RowIs wr 1 (vofP G L x) (at_ G x).length (ints (at_ G x)) := by
  have h1 := (hg.vof (hk x (List.mem_of_getElem? hx))).1
  refine h1.touch h.t (fun b hb ⟨j, y, hj, hy, e⟩ => ?_)
  have hlt : y < x := by
    rw [List.pairwise_iff_getElem] at hn
    have := hn j k (List.getElem?_eq_some_iff.1 hy).1 (List.getElem?_eq_some_iff.1 hx).1 hj
    rw [(List.getElem?_eq_some_iff.1 hy).2, (List.getElem?_eq_some_iff.1 hx).2] at this
    exact this
  exact hg.vof_apart (hk y (List.mem_of_getElem? hy)) (hk x (List.mem_of_getElem? hx)) (by omega) e hb
/-- One more: its row was sorted and cut (w1 to w3), and put behind (w3 to w4). -/
theorem TurI.next (h : TurI w1 G L ns k av ss wr) (hg : GAt Try.prog 3 w1 b0 g G L c) (hk : ∀ x ∈ ns, hasK G x = true) (hn : ns.Pairwise (· < ·)) {x : Int} (hx : ns[k]? = some x) (ht : Touch (fun b => (vofP G L x).ownBlock = some b) wr w3) {s av' : Value} (hs : RowIs w3 1 s (rises (at_ G x)).length (ints (rises (at_ G x)))) (ho : s.ownBlock = (vofP G L x).ownBlock)
    (ht4 : Touch (fun b => av.ownBlock = some b) w3 w4) (hr4 : RowIs w4 2 av' (ss ++ [(x, s)]).length (uC (ss ++ [(x, s)]))) (ho4 : ∀ b, av'.ownBlock = some b → av.ownBlock = some b ∨ w3.heap.size ≤ b) : TurI w1 G L ns (k + 1) av' (ss ++ [(x, s)]) w4 := by
  have hmem := List.mem_of_getElem? hx
  have hold : ∀ y ∈ ns, ∀ b, (vofP G L y).ownBlock = some b → b < w1.heap.size := fun y hy b hb => (hg.vof (hk y hy)).1.lt b hb
  have hs13 : w1.heap.size ≤ w3.heap.size := Nat.le_trans h.t.size ht.size
  have t13 : Touch (fun b => ∃ (j : Nat) (x : Int), j < k + 1 ∧ ns[j]? = some x ∧ (vofP G L x).ownBlock = some b) w1 w3 :=
    (h.t.mono (fun b _ ⟨j, y, hj, hy, e⟩ => ⟨j, y, by omega, hy, e⟩)).trans ht (fun b _ e => ⟨k, x, by omega, hx, e⟩)
  refine ⟨t13.trans ht4 (fun b hb e => by have := h.own b e; omega), hr4, by rw [List.length_append, h.len]; rfl, fun j e he => ?_, fun b hb => ?_⟩
  · by_cases hj : j < ss.length
    · rw [List.getElem?_append_left hj] at he
      obtain ⟨e1, e2, e3⟩ := h.each j e he
      have hjk : j < k := by rw [← h.len]; exact hj
      have hlt : e.1 < x := by
        rw [List.pairwise_iff_getElem] at hn
        have := hn j k (List.getElem?_eq_some_iff.1 e1).1 (List.getElem?_eq_some_iff.1 hx).1 hjk
        rw [(List.getElem?_eq_some_iff.1 e1).2, (List.getElem?_eq_some_iff.1 hx).2] at this
        exact this
      refine ⟨e1, (e2.touch ht (fun b hb e' => ?_)).touch ht4 (fun b hb e' => ?_), e3⟩
      · rw [e3] at hb
        exact hg.vof_apart (hk x hmem) (hk e.1 (List.mem_of_getElem? e1)) (by omega) e' hb
      · rw [e3] at hb
        have := hold e.1 (List.mem_of_getElem? e1) b hb
        have := h.own b e'
        omega
    · have hj2 : j = ss.length := by
        have := (List.getElem?_eq_some_iff.1 he).1
        rw [List.length_append, List.length_singleton] at this
        omega
      subst hj2
      rw [List.getElem?_append_right (Nat.le_refl _), Nat.sub_self] at he
      have he : (x, s) = e := by simpa using he
      subst he
      refine ⟨by rw [h.len]; exact hx, hs.touch ht4 (fun b hb e' => ?_), ho⟩
      rw [ho] at hb
      have := hold x hmem b hb
      have := h.own b e'
      omega
  · rcases ho4 b hb with e | e
    · exact h.own b e
    · omega
theorem TurI.keep (h : TurI w1 G L ns k av ss wr) (hg : GAt Try.prog 3 w1 b0 g G L c) (hk : ∀ x ∈ ns, hasK G x = true) {x : Int} (hx : ns[k]? = some x) (ht : Touch (fun b => (vofP G L x).ownBlock = some b) wr w3) : RowIs w3 2 av ss.length (uC ss) :=
  h.row.touch ht (fun b hb e => by
    have := (hg.vof (hk x (List.mem_of_getElem? hx))).1.lt b e
    have := h.own b hb
    omega)
end
end Go.Proofs.Ytlbhpeeggbfcpaa
