/- The reference in memory: what its Add leans on. -/
import Derived.Test.YtoidfkcecggjfaaDoorZValO
import Derived.Test.YtoidfkcecggjfaaDoorZValP
import Derived.Test.YtoidfkcecggjfaaDoorZValK
set_option linter.unusedSimpArgs false
set_option linter.unusedVariables false
set_option linter.unnecessarySimpa false
namespace Go.Proofs.YtoidfkcecggjfaaDoor
open Go.RowKit Go.Shelf

/-- The reference in memory: all commits, each a row of its own. -/
structure RAt (w : World) (r : Nat) (u : Value) (F : Nat) (us : List Value) (A : List (List K)) : Prop where
  head : w.heap[r]? = some (.cells #[u, .int .i64 F] 28 (0, 0))
  row : RowIs w 1 u A.length us
  each : ∀ (i : Nat) (ks : List K), A[i]? = some ks → ∃ x, us[i]? = some x ∧ RowIs w 1 x ks.length (strs ks) ∧ x.ownBlock ≠ some r
  off : u.ownBlock ≠ some r
  len : us.length = A.length
theorem RAt.touch {S : Nat → Prop} {w w' : World} {r F : Nat} {u : Value} {us : List Value} {A : List (List K)} (hh : RAt w r u F us A) (ht : Touch S w w') (h1 : ¬ S r) (h2 : ∀ g, u.ownBlock = some g → ¬ S g) (h3 : ∀ x ∈ us, ∀ g, x.ownBlock = some g → ¬ S g) : RAt w' r u F us A :=
  ⟨(ht.block r (heap_lt hh.head) h1).trans hh.head, RowIs.touch hh.row ht h2, fun i ks hi => by
    obtain ⟨x, hx, hr, a⟩ := hh.each i ks hi
    exact ⟨x, hx, RowIs.touch hr ht (h3 x (List.mem_of_getElem? hx)), a⟩, hh.off, hh.len⟩
theorem RAt.below {w w' : World} {r F : Nat} {u : Value} {us : List Value} {A : List (List K)} (hh : RAt w r u F us A) (hb : Below w.heap.size w w') : RAt w' r u F us A :=
  hh.touch (S := fun _ => False) (.of_below hb) (fun e => e) (fun _ _ e => e) (fun _ _ _ _ e => e)
theorem take_ins {keys : List K} {k : Nat} {s : K} (h : keys[k]? = some s) : (keys.take (k + 1)).foldl insP [] = insP ((keys.take k).foldl insP []) s := by
  rw [List.take_add_one, h]
  simp
theorem take_insS {set : List K} {j : Nat} {x k : K} (h : set[j]? = some x) : (set.take (j + 1)).foldl (insS k) ([], false) = insS k ((set.take j).foldl (insS k) ([], false)) x := by
  rw [List.take_add_one, h]
  simp
theorem src_row {w : World} {A : Option Addr} {n c : Nat} {us : List Value} (h : RowIs w 1 (.slice A n c) n us) (h1 : ∀ u ∈ us, u.oneCell' = true) : Src Tryd.prog 1 26 (.slice A n c) n us w := by
  rcases h with ⟨e, h2, h3⟩ | ⟨g, cap, e, h2, h3, hc⟩
  · injection e with e1 e2 e3
    subst e1 e2 e3
    subst h3
    exact Src.ofNil _ Tryd.underlying26 0
  · injection e with e1 e2 e3
    subst e1 e3
    exact Src.ofSlice _ Tryd.underlying26 ⟨g, 0, none⟩ n c us (by omega) (fun j u hu => by rw [add0]; exact hc.holds j u hu) h1
/-- append(append([][]string{}, L...), set) -/
theorem ref_app {w : World} {Au : Option Addr} {n cu : Nat} {us : List Value} {As : Option Addr} {m cs : Nat} (hrow : RowIs w 1 (.slice Au n cu) n us) (h1 : ∀ u ∈ us, u.oneCell' = true) (hn : n ≤ 1000) :
    ∃ A1 c1 w1 A2 c2 w2, (Builtin.append_ #[26, 26] 26 #[.slice (some ⟨w.heap.size, 0, none⟩) 0 0, .slice Au n cu]).run Tryd.prog (w.alloc (.cells #[] 29)) = .ok (.slice A1 n c1) w1
      ∧ (Builtin.append_ #[26, 26] 26 #[.slice A1 n c1, .slice (some ⟨w1.heap.size, 0, none⟩) 1 1]).run Tryd.prog (w1.alloc (.cells #[.slice As m cs] 29)) = .ok (.slice A2 (n + 1) c2) w2
      ∧ RowIs w2 1 (.slice A2 (n + 1) c2) (n + 1) (us ++ [.slice As m cs]) ∧ (∀ k, (Value.slice A2 (n + 1) c2).ownBlock = some k → w.heap.size ≤ k) ∧ Below w.heap.size w w1 ∧ Below w.heap.size w w2 := by
  have hb1 := below_new (w := w) (.cells #[] 29)
  have hat := alloc_at w (.cells #[] 29)
  have hrow0 : RowIs (w.alloc (.cells #[] 29)) 1 (.slice (some ⟨w.heap.size, 0, none⟩) 0 0) 0 [] := .inr ⟨w.heap.size, 0, rfl, rfl, Nat.le_refl _, heap_lt hat, Nat.zero_le _, by unfold maxLen; omega, fun j u hj => by simp at hj, fun j hj => by omega⟩
  obtain ⟨v1, w1, hr1, h2, h3, h4⟩ := run_append_row (w.alloc (.cells #[] 29)) 26 29 26 26 Tryd.underlying26 infoS rfl (by omega) (by omega) _ 0 n [] us _ hrow0 (src_row (hrow.below hb1) h1) (by omega)
  rw [Nat.zero_add, List.nil_append] at h2
  have hown : ∀ k, v1.ownBlock = some k → w.heap.size ≤ k := fun k e => by
    rcases h4 with e2 | e2
    · rw [e2] at e
      have e : w.heap.size = k := Option.some.inj e
      omega
    · rw [e] at e2
      injection e2 with e2
      rw [asz] at e2
      omega
  have hbB : Below w.heap.size w w1 := hb1.trans (((Touch.refl (fun k => (Value.slice (some ⟨w.heap.size, 0, none⟩) 0 0).ownBlock = some k) _).grown h3 (fun k e _ => e)).below (fun i e => by have e : w.heap.size = i := Option.some.inj e; omega) hb1.size)
  have hb2 := below_new (w := w1) (.cells #[.slice As m cs] 29)
  obtain ⟨v2, w2, hr2, h5, h6, h7⟩ := run_append_row (w1.alloc (.cells #[.slice As m cs] 29)) 26 29 26 26 Tryd.underlying26 infoS rfl (by omega) (by omega) _ n 1 us [.slice As m cs] _ (h2.below hb2) (src_s (alloc_at w1 (.cells #[.slice As m cs] 29))) (by omega)
  have hown2 : ∀ k, v2.ownBlock = some k → w.heap.size ≤ k := fun k e => by
    have hs := hbB.size
    rcases h7 with e2 | e2
    · exact hown k (e2 ▸ e)
    · rw [e] at e2
      injection e2 with e2
      rw [asz] at e2
      omega
  have hbC : Below w.heap.size w w2 := hbB.trans (((Touch.of_below (S := fun k => v1.ownBlock = some k) hb2).grown h6 (fun k e _ => e)).below (fun i e => hown i e) hbB.size)
  obtain ⟨A1, c1, rfl, _⟩ := id h2.form
  obtain ⟨A2, c2, rfl, _⟩ := id h5.form
  exact ⟨A1, c1, w1, A2, c2, w2, hr1, hr2, h5, hown2, hbB, hbC⟩
end Go.Proofs.YtoidfkcecggjfaaDoor
