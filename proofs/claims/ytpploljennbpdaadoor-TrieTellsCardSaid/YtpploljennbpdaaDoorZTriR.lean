/- trie: a new node in memory: the node is put at the end, then its number behind the kids. -/
import Derived.Test.YtpploljennbpdaaDoorZTriQ
set_option linter.unusedSimpArgs false
set_option linter.unusedVariables false
set_option linter.unnecessarySimpa false
namespace Go.Proofs.YtpploljennbpdaaDoor
open Go.RowKit Go.Shelf

theorem infoNd : (Tryd.prog.info? 52).map (fun i => (i.zero, i.size, i.bytes)) = some (some (.agg #[.int .i64 0, .int .i64 0, .slice none 0 0]), 3, 40) := by kernel_rfl
theorem three_new (W : World) (t : TypeId) (c0 c1 c2 : Value) : ∀ (j : Nat) (u : Value), [c0, c1, c2][j]? = some u → (W.alloc (.cells #[c0, c1, c2] t)).cell? ((⟨W.heap.size, 0, none⟩ : Addr).add j) = some u := by
  intro j u h
  rw [add0, cell_of_row _ _ _ _ _ _ (heap_alloc_new W _)]
  simpa using h
abbrev newNd (s u : Int) : Nd := ⟨s, u, .slice none 0 0⟩
/-- A node is put at the end of a row of nodes. -/
theorem app_nd {w : World} {v : Value} {N : List Nd} (s u : Int) (ty : TypeId) (h : RowIs w 3 v N.length (ndC N)) (hl : N.length ≤ 100000) : ∃ v' w', (Builtin.append_ #[25, 25] ty #[v, .slice (some ⟨w.heap.size, 0, none⟩) 1 1]).run Tryd.prog (w.alloc (.cells #[.int .i64 s, .int .i64 u, .slice none 0 0] 52)) = .ok v' w' ∧ RowIs w' 3 v' (N ++ [newNd s u]).length (ndC (N ++ [newNd s u])) ∧ Touch (fun k => v.ownBlock = some k) w w' ∧ (∀ k, v'.ownBlock = some k → v.ownBlock = some k ∨ w.heap.size ≤ k) := by
  have hb := below_new (w := w) (.cells #[.int .i64 s, .int .i64 u, .slice none 0 0] 52)
  have hsrc : Src Tryd.prog 3 25 (.slice (some ⟨w.heap.size, 0, none⟩) 1 1) 1 [.int .i64 s, .int .i64 u, .slice none 0 0] (w.alloc (.cells #[.int .i64 s, .int .i64 u, .slice none 0 0] 52)) :=
    Src.ofSlice _ Tryd.underlying25 ⟨w.heap.size, 0, none⟩ 1 1 [.int .i64 s, .int .i64 u, .slice none 0 0] rfl (three_new _ _ _ _ _) (fun u hu => by
      simp at hu
      rcases hu with rfl | rfl | rfl <;> rfl)
  obtain ⟨v', w', hr, h2, h3, h4⟩ := run_append_row (w.alloc (.cells #[.int .i64 s, .int .i64 u, .slice none 0 0] 52)) 25 52 ty 25 Tryd.underlying25 infoNd rfl (by omega) (by omega) v N.length 1 (ndC N) _ _ (h.below hb) hsrc (by omega)
  refine ⟨v', w', hr, by rw [List.length_append, ndC_snoc]; exact h2, (Touch.of_below hb).grown h3 (fun k hk _ => hk), fun k hk => ?_⟩
  rcases h4 with e | e
  · exact .inl (e ▸ hk)
  · right
    rw [e] at hk
    have := Option.some.inj hk
    rw [asz] at this
    omega
/-- A tree that a box holds. -/
structure TrBx (w : World) (tb : Nat) (v : Value) (N : List Nd) (P : List Pth) : Prop where
  head : w.heap[tb]? = some (.cells #[v] 27 (0, 0))
  tree : TrAt w v N P
  off : ¬ TrOwn v N tb
/-- A node more; its number is behind nobody's kids yet. -/
structure MidTr (w : World) (tb : Nat) (v : Value) (N : List Nd) (P : List Pth) (s u : Int) : Prop where
  head : w.heap[tb]? = some (.cells #[v] 27 (0, 0))
  row : RowIs w 3 v (N ++ [newNd s u]).length (ndC (N ++ [newNd s u]))
  kid : ∀ (i : Nat) (x : Nd), N[i]? = some x → RowIs w 1 x.k (kidsP P i).length (ints (natI (kidsP P i)))
  off : ∀ (i : Nat) (x : Nd) (g : Nat), N[i]? = some x → x.k.ownBlock = some g → v.ownBlock ≠ some g ∧ g ≠ tb
  apart : ∀ (i j : Nat) (x y : Nd) (g : Nat), N[i]? = some x → N[j]? = some y → x.k.ownBlock = some g → y.k.ownBlock = some g → i = j
  own : v.ownBlock ≠ some tb
theorem add_node {w : World} {tb : Nat} {v : Value} {N : List Nd} {P : List Pth} (h : TrBx w tb v N P) (hP : P.length ≤ 1000) (s u : Int) :
    ∃ A1 c1 w1, (Builtin.append_ #[25, 25] 25 #[v, .slice (some ⟨w.heap.size, 0, none⟩) 1 1]).run Tryd.prog (w.alloc (.cells #[.int .i64 s, .int .i64 u, .slice none 0 0] 52)) = .ok (.slice A1 (P.length + 1) c1) w1 ∧
      w1.heap[tb]? = some (.cells #[v] 27 (0, 0)) ∧ MidTr (w1.setCell ⟨tb, 0, none⟩ (.slice A1 (P.length + 1) c1)) tb (.slice A1 (P.length + 1) c1) N P s u ∧ Touch (fun k => k = tb ∨ TrOwn v N k) w (w1.setCell ⟨tb, 0, none⟩ (.slice A1 (P.length + 1) c1)) ∧ (∀ g, (Value.slice A1 (P.length + 1) c1).ownBlock = some g → v.ownBlock = some g ∨ w.heap.size ≤ g) := by
  have hr := h.tree.row
  rw [← h.tree.len] at hr
  obtain ⟨v', w1, hrun, h2, ht, ho⟩ := app_nd s u 25 hr (by rw [h.tree.len]; omega)
  obtain ⟨A1, c1, he, _⟩ := id h2.form
  have eL : (N ++ [newNd s u]).length = P.length + 1 := by rw [List.length_append, h.tree.len]; rfl
  rw [eL] at he
  subst he
  have nB : v.ownBlock ≠ some tb := fun e => h.off (.inl e)
  have hB1 : w1.heap[tb]? = some (.cells #[v] 27 (0, 0)) := (ht.block _ (heap_lt h.head) nB).trans h.head
  have s2 := set_at hB1 0 (.slice A1 (P.length + 1) c1)
  simp only [Array.setIfInBounds, List.size_toArray, List.length_cons, List.length_nil, Nat.zero_add, Nat.lt_add_one, dite_true, ↓reduceDIte] at s2
  have htb := heap_lt h.head
  have hbf : Touch (fun k => k = tb ∨ v.ownBlock = some k) w (w1.setCell ⟨tb, 0, none⟩ (.slice A1 (P.length + 1) c1)) := (ht.mono (fun k _ e => .inr e)).setCell ⟨tb, 0, none⟩ (fun _ => .inl rfl) _
  have own1 : (Value.slice A1 (P.length + 1) c1).ownBlock ≠ some tb := fun e => by
    rcases ho tb e with e | e
    · exact nB e
    · omega
  refine ⟨A1, c1, w1, hrun, hB1, ⟨s2, h2.keep (by simp [World.setCell]) (fun g hg => Below.heap_setCell _ _ _ _ (fun e => own1 (by rw [hg]; exact congrArg some e))), fun i x hx => (h.tree.kid i x hx).touch hbf (fun g hg e => ?_), fun i x g hx hg => ⟨fun e => ?_, fun e => h.off (.inr ⟨x, List.mem_of_getElem? hx, by rw [← e]; exact hg⟩)⟩, h.tree.apart, own1⟩, hbf.mono (fun k _ e => e.elim .inl (fun e => .inr (.inl e))), ho⟩
  · rcases e with rfl | e
    · exact h.off (.inr ⟨x, List.mem_of_getElem? hx, hg⟩)
    · exact h.tree.off i x g hx hg e
  · rcases ho g e with e | e
    · exact h.tree.off i x g hx hg e
    · have := (h.tree.kid i x hx).lt g hg; omega
theorem sub_add_old {P : List Pth} {z : Pth} {i : Nat} (hi : i < P.length) : subP (P ++ [z]) i = subP P i := by unfold subP; rw [snoc_lt hi]
theorem up_add_old {P : List Pth} {n : Nat} {p : Pth} {x : Int} (hT : TreeP P) (hT' : TreeP (P ++ [p ++ [x]])) {i : Nat} (hi : i < P.length) : upP (P ++ [p ++ [x]]) i = upP P i := by
  have hp := List.getElem?_eq_getElem hi
  cases i with
  | zero => rw [up_root, up_root]
  | succ i =>
    rw [up_at hp (by omega), up_at (by rw [snoc_lt hi]; exact hp) (by omega)]
    obtain ⟨j, hj, hjp⟩ := hT.up _ _ hp (by omega)
    rw [hT.idx hjp, idx_pre hT' (List.prefix_append _ _) hjp]
/-- The number is behind the kids: the tree with one node more. -/
theorem mid_done {w w3 : World} {tb g1 c1 : Nat} {N : List Nd} {P : List Pth} {n : Nat} {p : Pth} {x : Int} {y : Nd} {k' : Value} (hT : TreeP P) (hn : P[n]? = some p) (hx : p ++ [x] ∉ P) (hl : p.length < 8) (hlen : N.length = P.length) (hnums : ∀ (i : Nat) (x : Nd), N[i]? = some x → x.s = subP P i ∧ x.u = upP P i)
    (h : MidTr w tb (.slice (some ⟨g1, 0, none⟩) (P.length + 1) c1) N P x (n : Int)) (hy : N[n]? = some y) (ht : Touch (fun k => y.k.ownBlock = some k) w w3) (hk : RowIs w3 1 k' ((kidsP P n).length + 1) (ints (natI (kidsP P n) ++ [(P.length : Int)]))) (ho : ∀ g, k'.ownBlock = some g → y.k.ownBlock = some g ∨ w.heap.size ≤ g) :
    TrBx (w3.setCell ⟨g1, n * 3 + 2, none⟩ k') tb (.slice (some ⟨g1, 0, none⟩) (P.length + 1) c1) ((N ++ [newNd x n]).set n { y with k := k' }) (P ++ [p ++ [x]]) ∧ Touch (fun k => k = g1 ∨ y.k.ownBlock = some k) w (w3.setCell ⟨g1, n * 3 + 2, none⟩ k') := by
  have hT' := hT.add hn hx hl
  have hnl := (List.getElem?_eq_some_iff.1 hn).1
  have hog1 : (Value.slice (some ⟨g1, 0, none⟩) (P.length + 1) c1).ownBlock = some g1 := by
    rcases h.row with ⟨e, _⟩ | ⟨g', c', e, _, _, hc⟩
    · cases e
    · rfl
  have hoff := h.off n y
  have hbf : Touch (fun k => k = g1 ∨ y.k.ownBlock = some k) w (w3.setCell ⟨g1, n * 3 + 2, none⟩ k') := (ht.mono (fun k _ e => .inr e)).setCell ⟨g1, n * 3 + 2, none⟩ (fun _ => .inl rfl) _
  have ng : ∀ g, y.k.ownBlock = some g → g ≠ g1 := fun g hg e => (hoff g hy hg).1 (by rw [e]; exact hog1)
  have g1l : g1 < w.heap.size := h.row.lt g1 hog1
  have ng' : ∀ g, k'.ownBlock = some g → g ≠ g1 := fun g hg e => by
    rcases ho g hg with e2 | e2
    · exact ng g e2 e
    · omega
  have ntb : tb ≠ g1 := fun e => h.own (by rw [e]; exact hog1)
  have htbl := heap_lt h.head
  have eL : (N ++ [newNd x n]).length = P.length + 1 := by rw [List.length_append, hlen]; rfl
  have hyN : (N ++ [newNd x n])[n]? = some y := by rw [List.getElem?_append_left (by omega)]; exact hy
  have getN : ∀ (i : Nat) (z : Nd), ((N ++ [newNd x n]).set n { y with k := k' })[i]? = some z → (i = n ∧ z = { y with k := k' }) ∨ (i ≠ n ∧ i < P.length ∧ N[i]? = some z) ∨ (i = P.length ∧ z = newNd x n) := fun i z hz => by
    rw [List.getElem?_set] at hz
    by_cases e : n = i
    · rw [if_pos e, if_pos (by omega)] at hz
      exact .inl ⟨e.symm, (Option.some.inj hz).symm⟩
    · rw [if_neg e] at hz
      by_cases hi : i < P.length
      · rw [List.getElem?_append_left (by omega)] at hz
        exact .inr (.inl ⟨fun e2 => e e2.symm, hi, hz⟩)
      · have hil := (List.getElem?_eq_some_iff.1 hz).1
        obtain rfl : i = P.length := by omega
        rw [List.getElem?_append_right (by omega), hlen, Nat.sub_self] at hz
        exact .inr (.inr ⟨rfl, (Option.some.inj hz).symm⟩)
  have subnew : subP (P ++ [p ++ [x]]) P.length = x := by rw [sub_at (snoc_at P _)]; simp
  have upnew : upP (P ++ [p ++ [x]]) P.length = (n : Int) := by
    rw [up_at (snoc_at P _) (by omega), List.dropLast_concat, idx_pre hT' (List.prefix_append _ _) hn]
  refine ⟨⟨(hbf.block tb htbl (fun e => ?_)).trans h.head, ⟨hT', ?_, ?_, fun i z hz => ?_, fun i z hz => ?_, fun i z g hz hg => ?_, fun i j a b g ha hb hga hgb => ?_⟩, fun e => ?_⟩, hbf⟩
  · rcases e with e | e
    · exact ntb e
    · exact (hoff tb hy e).2 rfl
  · rw [List.length_append, List.length_singleton]
    have h3 : RowIs w3 3 (.slice (some ⟨g1, 0, none⟩) (P.length + 1) c1) (P.length + 1) (ndC (N ++ [newNd x n])) := by
      have := h.row.touch ht (fun g hg e => ng g e (by rw [hog1] at hg; exact (Option.some.inj hg).symm))
      rwa [eL] at this
    rcases h3 with ⟨e, _⟩ | ⟨g', c', e, q1, q2, hc⟩
    · cases e
    · injection e with e1 _ e3
      injection e1 with e1
      injection e1 with e1
      subst e1 e3
      have hs := hc.setU (p := n * 3 + 2) (by rw [ndC_len, eL]; omega) k'
      rw [ndC_set k' hyN] at hs
      exact .inr ⟨g1, c1, rfl, by rw [ndC_len, List.length_set, eL], q2, hs⟩
  · rw [List.length_set, eL, List.length_append]; rfl
  · rcases getN i z hz with ⟨rfl, rfl⟩ | ⟨_, hi, hz⟩ | ⟨rfl, rfl⟩
    · obtain ⟨e1, e2⟩ := hnums i y hy
      exact ⟨by rw [sub_add_old hnl]; exact e1, by rw [up_add_old (n := i) hT hT' hnl]; exact e2⟩
    · obtain ⟨e1, e2⟩ := hnums i z hz
      exact ⟨by rw [sub_add_old hi]; exact e1, by rw [up_add_old (n := n) hT hT' hi]; exact e2⟩
    · exact ⟨subnew.symm, upnew.symm⟩
  · rcases getN i z hz with ⟨rfl, rfl⟩ | ⟨hne, hi, hz⟩ | ⟨rfl, rfl⟩
    · rw [kids_add_same hT hn, natI_snoc, List.length_append, List.length_singleton]
      exact hk.keep (by simp [World.setCell]) (fun g hg => Below.heap_setCell _ _ _ _ (ng' g hg))
    · rw [kids_add_other hT hn hi hne]
      refine (h.kid i z hz).touch hbf (fun g hg e => ?_)
      rcases e with e | e
      · exact (h.off i z g hz hg).1 (by rw [e]; exact hog1)
      · exact hne (h.apart i n z y g hz hy hg e)
    · rw [kids_add_new hT hx]
      exact RowIs.nil _ _
  · rw [hog1]
    intro e
    have e := Option.some.inj e
    subst e
    rcases getN i z hz with ⟨rfl, rfl⟩ | ⟨hne, hi, hz⟩ | ⟨rfl, rfl⟩
    · exact ng' _ hg rfl
    · exact (h.off i z _ hz hg).1 hog1
    · cases hg
  · have key : ∀ (i : Nat) (a : Nd) (g : Nat), i ≠ n → i < P.length → N[i]? = some a → a.k.ownBlock = some g → k'.ownBlock = some g → False := fun i a g hne hi ha hga hgk => by
      rcases ho g hgk with e | e
      · exact hne (h.apart i n a y g ha hy hga e)
      · have := (h.kid i a ha).lt g hga; omega
    rcases getN i a ha with ⟨ei, ea⟩ | ⟨hne, hi, ha2⟩ | ⟨ei, ea⟩
    · rcases getN j b hb with ⟨ej, eb⟩ | ⟨hnej, hj, hb2⟩ | ⟨ej, eb⟩
      · rw [ei, ej]
      · exact (key j b g hnej hj hb2 hgb (by rw [ea] at hga; exact hga)).elim
      · rw [eb] at hgb; cases hgb
    · rcases getN j b hb with ⟨ej, eb⟩ | ⟨hnej, hj, hb2⟩ | ⟨ej, eb⟩
      · exact (key i a g hne hi ha2 hga (by rw [eb] at hgb; exact hgb)).elim
      · exact h.apart i j a b g ha2 hb2 hga hgb
      · rw [eb] at hgb; cases hgb
    · rw [ea] at hga; cases hga
  · rcases e with e | ⟨z, hz, e⟩
    · exact h.own e
    · obtain ⟨i, hi⟩ := List.getElem?_of_mem hz
      rcases getN i z hi with ⟨rfl, rfl⟩ | ⟨hne, hi2, hz2⟩ | ⟨rfl, rfl⟩
      · rcases ho tb e with e2 | e2
        · exact (hoff tb hy e2).2 rfl
        · omega
      · exact (h.off i z tb hz2 e).2 rfl
      · cases e
end Go.Proofs.YtpploljennbpdaaDoor
