/- trie: the law TrieTells (gentrmb.py wrote it). -/
import Derived.Test.YtpploljennbpdaaDoorZTrmA
import Derived.Test.YtpploljennbpdaaDoorZTrlB
set_option linter.unusedSimpArgs false
set_option linter.unusedVariables false
set_option linter.unnecessarySimpa false
namespace Go.Proofs.YtpploljennbpdaaDoor
open Go.RowKit Go.Shelf

/-- A call that answers a list of numbers. -/
def SisP (l : List Int) (w : World) (e : Ending) (w' : World) : Prop := ∃ v', e = .returned v' ∧ SIs w' v' l ∧ Below w.heap.size w w'
theorem NodesP.sis {l : List Nat} {w w' : World} {e : Ending} (h : NodesP l w e w') : SisP (natI l) w e w' := by
  obtain ⟨v', rfl, hr, _, hb⟩ := h
  rw [← natI_len] at hr
  exact ⟨v', rfl, hr.sis, hb⟩
set_option maxRecDepth 100000 in
set_option maxHeartbeats 2000000 in
theorem RBelow_out {w : World} {A : Option Addr} {P : List Pth} {cap : Nat} {m : Int} (hP : P.length ≤ 1000) (hm : inI P m = false) : Calls Tryd.prog 17 #[.agg #[.slice A P.length cap], .int .i64 m] w (SisP [] w) := by
  have hb0 := below_new (w := w) (.cells #[.slice A P.length cap] 32)
  have hbx := alloc_at w (.cells #[.slice A P.length cap] 32)
  obtain ⟨w1, hw1⟩ : ∃ w1, w1 = w.alloc (.cells #[.slice A P.length cap] 32) := ⟨_, rfl⟩
  rw [← hw1] at hb0 hbx
  have HW1 := Lib.hid hw1
  have HB0 := Lib.hid hb0
  have HT := Lib.hid (fun (W : World) => There_any (w := W) (A := A) (P := P) (cap := cap) m hP)
  rw [hm] at HT
  have q1 := cell_of hbx 0
  clear hb0 hbx hw1 hm hP
  go_enter Tryd.func17, Tryd.ntmps17
  go_wp2_with fail
  rw [← HW1.out]
  go_wp2_with fail
  refine (HT.out _).mono ?_
  rintro e w2 ⟨rfl, hb2⟩
  have HB2 := Lib.hid (HB0.out.trans (hb2.mono HB0.out.size))
  clear hb2 q1
  go_wp2_with fail
  refine bodyPost_ret (v := .slice none 0 0) (by simp [results, Tryd.results17, go_sem]) rfl ⟨_, rfl, ⟨none, 0, rfl, Nat.le_refl _, by unfold maxLen; omega, fun i x hx => by simp at hx⟩, HB2.out⟩
theorem RBelow_any {w : World} {v : Value} {P : List Pth} (m : Int) (h : RTr w v P) : Calls Tryd.prog 17 #[.agg #[v], .int .i64 m] w (SisP (natI (belowI P m)) w) := by
  by_cases hm : inI P m = true
  · obtain ⟨n, p, rfl, hn⟩ := in_at hm
    rw [belowI_nat hn]
    exact (RBelow_in h.tree n p hn w v h).mono fun e w' hp => hp.sis
  · have hm : inI P m = false := by simpa using hm
    have e : belowI P m = [] := by
      unfold belowI
      rw [if_neg (of_decide_eq_false hm)]
    rw [e]
    obtain ⟨A, cap, rfl, _⟩ := h.row.form
    exact RBelow_out (by have := h.few; omega) hm
theorem sis_nil (w : World) : SIs w (.slice none 0 0) [] := ⟨none, 0, rfl, Nat.le_refl _, by unfold maxLen; omega, fun i x hx => by simp at hx⟩
theorem path_out {P : List Pth} {m : Int} (h : inI P m = false) : pathI P m = [] := by
  unfold pathI
  rw [if_neg (of_decide_eq_false h)]
theorem same_self {w : World} {u v : Value} {l : List Int} (h : SIs w u l) (k : SIs w v l) (hl : l.length ≤ 1000000) : Calls Tryd.prog 12 #[u, v] w fun e w' => e = .returned (.bool true) ∧ Below w.heap.size w w' := by
  have := Same_any h k hl hl
  have hs : sameB l l = true := decide_eq_true rfl
  rwa [hs] at this
theorem few_below {P : List Pth} (hT : TreeP P) (m : Int) : (natI (belowI P m)).length ≤ P.length := by
  rw [natI_len]
  exact belowI_le hT m
/-- All that the law asks of the tree and of the document's own, wherever they are asked. -/
structure Asks (wS : World) (bt br : Nat) (tv rv : Value) (T : List Pth) : Prop where
  box : ∀ W, Below wS.heap.size wS W → W.cell? ⟨bt, 0, none⟩ = some tv ∧ W.cell? ⟨br, 0, none⟩ = some rv
  path : ∀ W n, Below wS.heap.size wS W → Calls Tryd.prog 13 #[.agg #[tv], .int .i64 n] W (SisP (pathI T n) W)
  above : ∀ W n, Below wS.heap.size wS W → Calls Tryd.prog 14 #[.agg #[tv], .int .i64 n] W (SisP (natI (aboveI T n)) W)
  below : ∀ W n, Below wS.heap.size wS W → Calls Tryd.prog 16 #[.agg #[tv], .int .i64 n] W (SisP (natI (belowI T n)) W)
  leaf : ∀ W n, Below wS.heap.size wS W → Calls Tryd.prog 18 #[.agg #[tv], .int .i64 n] W fun e w' => e = .returned (.bool (leafB T n)) ∧ Below W.heap.size W w'
  meet : ∀ W n m, Below wS.heap.size wS W → Calls Tryd.prog 20 #[.agg #[tv], .int .i64 n, .int .i64 m] W fun e w' => e = .returned (.int .i64 (meetI T n m)) ∧ Below W.heap.size W w'
  pref : ∀ W n m, Below wS.heap.size wS W → Calls Tryd.prog 22 #[.agg #[tv], .int .i64 n, .int .i64 m] W fun e w' => e = .returned (.bool (prefI T n m)) ∧ Below W.heap.size W w'
  leaves : ∀ W, Below wS.heap.size wS W → Calls Tryd.prog 24 #[.agg #[tv]] W (SisP (natI (leavesP T)) W)
  rthere : ∀ W n, Below wS.heap.size wS W → Calls Tryd.prog 11 #[.agg #[rv], .int .i64 n] W fun e w' => e = .returned (.bool (inI T n)) ∧ Below W.heap.size W w'
  rabove : ∀ W n, Below wS.heap.size wS W → Calls Tryd.prog 15 #[.agg #[rv], .int .i64 n] W (SisP (natI (aboveI T n)) W)
  rbelow : ∀ W n, Below wS.heap.size wS W → Calls Tryd.prog 17 #[.agg #[rv], .int .i64 n] W (SisP (natI (belowI T n)) W)
  rkids : ∀ W (n : Nat) (p : Pth), T[n]? = some p → Below wS.heap.size wS W → Calls Tryd.prog 19 #[.agg #[rv], .int .i64 (n : Int)] W fun e w' => ∃ A c, e = .returned (.slice A (kidsP T n).length c) ∧ Below W.heap.size W w'
  rmeet : ∀ W n m, Below wS.heap.size wS W → Calls Tryd.prog 21 #[.agg #[rv], .int .i64 n, .int .i64 m] W fun e w' => e = .returned (.int .i64 (meetI T n m)) ∧ Below W.heap.size W w'
  rpref : ∀ W n m, Below wS.heap.size wS W → Calls Tryd.prog 23 #[.agg #[rv], .int .i64 n, .int .i64 m] W fun e w' => e = .returned (.bool (prefI T n m)) ∧ Below W.heap.size W w'
  rleaves : ∀ W, Below wS.heap.size wS W → Calls Tryd.prog 25 #[.agg #[rv]] W (SisP (natI (leavesP T)) W)
  same : ∀ W u v n, SIs W u (pathI T n) → SIs W v (pathI T n) → Calls Tryd.prog 12 #[u, v] W fun e w' => e = .returned (.bool true) ∧ Below W.heap.size W w'
  sameA : ∀ W u v n, SIs W u (natI (aboveI T n)) → SIs W v (natI (aboveI T n)) → Calls Tryd.prog 12 #[u, v] W fun e w' => e = .returned (.bool true) ∧ Below W.heap.size W w'
  sameB : ∀ W u v n, SIs W u (natI (belowI T n)) → SIs W v (natI (belowI T n)) → Calls Tryd.prog 12 #[u, v] W fun e w' => e = .returned (.bool true) ∧ Below W.heap.size W w'
  sameL : ∀ W u v, SIs W u (natI (leavesP T)) → SIs W v (natI (leavesP T)) → Calls Tryd.prog 12 #[u, v] W fun e w' => e = .returned (.bool true) ∧ Below W.heap.size W w'
  rpath : ∀ W (n : Nat) (p : Pth), T[n]? = some p → Below wS.heap.size wS W → ∃ (a : Addr) (A : Option Addr) (k c : Nat) (rc : Nat), rv = .slice (some a) T.length rc ∧ W.cell? (a.add n) = some (.slice A k c) ∧ SIs W (.slice A k c) (pathI T n)
theorem asks_of {wS : World} {bt br : Nat} {tv rv : Value} {N : List Nd} {T : List Pth} {t1 t2 : TypeId} (hbt : wS.heap[bt]? = some (.cells #[tv] t1 (0, 0))) (hbr : wS.heap[br]? = some (.cells #[rv] t2 (0, 0))) (ht : TrAt wS tv N T) (hr : RTr wS rv T) : Asks wS bt br tv rv T := by
  have h9 := hr.few
  have hP : T.length ≤ 1000 := by omega
  have hT := hr.tree
  refine ⟨fun W hW => ⟨cell_of ((hW.block _ (heap_lt hbt)).trans hbt) 0, cell_of ((hW.block _ (heap_lt hbr)).trans hbr) 0⟩, ?_, ?_, ?_, fun W n hW => Leaf_any n (ht.below hW) hP, fun W n m hW => Meet_any n m (ht.below hW) hP, fun W n m hW => Prefers_any n m (ht.below hW) hP, ?_, ?_, fun W n hW => (RAbove_any n (hr.below hW)).mono fun e w' h => h.sis, fun W n hW => RBelow_any n (hr.below hW), ?_, fun W n m hW => RMeet_any n m (hr.below hW), fun W n m hW => RPrefers_any n m (hr.below hW), fun W hW => (RLeaves_any (hr.below hW)).mono fun e w' h => h.sis, ?_, ?_, ?_, ?_, ?_⟩
  · intro W n hW
    refine (Path_any n (ht.below hW) hP).mono ?_
    rintro e w' ⟨v', rfl, h1, _, h3⟩
    exact ⟨v', rfl, h1.sis, h3⟩
  · intro W n hW
    exact (Above_any n (ht.below hW) hP).mono fun e w' (h : NodesP _ W e w') => h.sis
  · intro W n hW
    exact (Below_any n (ht.below hW) hP).mono fun e w' (h : NodesP _ W e w') => h.sis
  · intro W hW
    exact (Leaves_any (ht.below hW) hP).mono fun e w' (h : NodesP _ W e w') => h.sis
  · intro W n hW
    obtain ⟨A, cap, rfl, _⟩ := hr.row.form
    exact There_any n hP
  · intro W n p hn hW
    refine (RKids_any (hr.below hW) hn).mono ?_
    rintro e w' ⟨v', rfl, h1, _, h3⟩
    obtain ⟨A, c, rfl, _⟩ := h1.form
    exact ⟨A, c, rfl, h3⟩
  · intro W u v n hu hv
    refine same_self hu hv ?_
    unfold pathI
    split
    · rename_i h
      have hn : T[n.toNat]? = some (T[n.toNat]'(by omega)) := List.getElem?_eq_getElem _
      rw [hn]
      have := hT.len hn
      show (T[n.toNat]'(by omega)).length ≤ _
      omega
    · simp
  · intro W u v n hu hv
    exact same_self hu hv (by rw [natI_len]; have := above_few hT n; omega)
  · intro W u v n hu hv
    exact same_self hu hv (by have := few_below hT n; omega)
  · intro W u v hu hv
    refine same_self hu hv ?_
    rw [natI_len]
    have := length_le_of_nodup _ _ (leaves_nodup hT) (fun m hm => ((mem_leaves hT).1 hm).1)
    omega
  · intro W n p hn hW
    obtain ⟨A, rc, e, _⟩ := hr.row.form
    have hr2 := (hr.below hW).row
    rw [e] at hr2
    obtain ⟨a, pv, rfl, _, hc, hs⟩ := hr2.at hn
    rw [path_nat hn]
    obtain ⟨pA, pc, rfl, _⟩ := hs.form
    exact ⟨a, pA, _, pc, rc, e, hc, hs⟩
end Go.Proofs.YtpploljennbpdaaDoor
