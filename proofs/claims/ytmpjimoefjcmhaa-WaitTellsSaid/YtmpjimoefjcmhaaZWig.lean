/- The chapter's example. -/
import Derived.Test.YtmpjimoefjcmhaaZWif
import Derived.Test.YtmpjimoefjcmhaaZWaiL
set_option linter.unusedSimpArgs false
set_option linter.unusedVariables false
set_option linter.unnecessarySimpa false
namespace Go.Proofs.Ytmpjimoefjcmhaa
open Go.RowKit

def l3 : List (Int × Int) := [(1, 2), (2, 3), (4, 1)]
def l4 : List (Int × Int) := [(3, 1), (1, 2), (2, 3), (4, 1)]
theorem l4_circ : ∀ y, Circ (fun x z => (x, z) ∈ l4) y ↔ y = 1 ∨ y = 2 ∨ y = 3 := by
  intro y
  have e12 : ((1 : Int), (2 : Int)) ∈ l4 := by decide
  have e23 : ((2 : Int), (3 : Int)) ∈ l4 := by decide
  have e31 : ((3 : Int), (1 : Int)) ∈ l4 := by decide
  constructor
  · rintro ⟨z, hz, hr⟩
    have key : ∀ a, Rch (fun x z => (x, z) ∈ l4) z a → a = 1 ∨ a = 2 ∨ a = 3 := by
      intro a ha
      induction ha with
      | refl =>
        have hz : (y, z) ∈ l4 := hz
        unfold l4 at hz
        simp at hz
        omega
      | tail _ h2 _ =>
        unfold l4 at h2
        simp at h2
        omega
    exact key y hr
  · rintro (rfl | rfl | rfl)
    · exact ⟨2, e12, (Rch.refl.tail e23).tail e31⟩
    · exact ⟨3, e23, (Rch.refl.tail e31).tail e12⟩
    · exact ⟨1, e31, (Rch.refl.tail e12).tail e23⟩
theorem l4_circP {c : List Int} (h : CircP l4 c) : c = [1, 2, 3] :=
  rise_uniq h.one (by decide) h.rise (by decide) (fun y => by rw [h.mem, l4_circ]; simp)
theorem l4_vict {n : Int} {b : Bool} (h : VictP l4 n b) : n = 3 ∧ b = true := by
  obtain ⟨c, hc, h⟩ := h
  have := l4_circP hc
  subst this
  rcases h with ⟨h, _⟩ | ⟨c0, h, hb⟩
  · cases h
  · have e : ([1, 2, 3] : List Int) = [1, 2] ++ [3] := rfl
    rw [e] at h
    obtain ⟨_, e2⟩ := List.append_inj' h rfl
    injection e2 with e2 _
    exact ⟨e2.symm, hb⟩
theorem l4_reach {r : List Int} (h : ReachP l4 4 r) : r.length = 3 := by
  have h1 : (1 : Int) ∈ r := h.first 1 (by decide)
  have h2 : (2 : Int) ∈ r := h.next 1 2 h1 (by decide)
  have h3 : (3 : Int) ∈ r := h.next 2 3 h2 (by decide)
  have ho : ∀ y ∈ r, y = 1 ∨ y = 2 ∨ y = 3 := h.only (fun y => y = 1 ∨ y = 2 ∨ y = 3) (fun y hy => by
    unfold l4 at hy
    simp at hy
    omega) (fun y z _ hz => by
    unfold l4 at hz
    simp at hz
    omega)
  have hp : r.Perm [1, 2, 3] := (List.perm_ext_iff_of_nodup h.one (by decide)).2 (fun y => by
    constructor
    · intro hy
      have := ho y hy
      simp
      omega
    · intro hy
      simp at hy
      rcases hy with rfl | rfl | rfl
      · exact h1
      · exact h2
      · exact h3)
  simpa using hp.length_eq
theorem only_of {l : List Int} {x : Int} (hn : l.Nodup) (h : ∀ y, y ∈ l ↔ y = x) : l = [x] :=
  rise_uniq hn (by simp) (by
    have hp : l.Perm [x] := (List.perm_ext_iff_of_nodup hn (by simp)).2 (fun y => by rw [h]; simp)
    rw [List.perm_singleton.1 hp]
    simp) (by simp) (fun y => by rw [h]; simp)
theorem none_of {l : List Int} (h : ∀ y, y ∉ l) : l = [] := List.eq_nil_iff_forall_not_mem.2 h
theorem l3_order {ns : List Int} (h : KeysP l3 ns) : ns = [1, 2, 3, 4] ∧ ordP (graphR l3) ns ns.length [] = some [3, 2, 1, 4] := by
  have hns : ns = [1, 2, 3, 4] := rise_uniq h.one (by decide) h.rise (by decide) (fun y => by
    rw [h.mem]
    unfold l3
    simp
    omega)
  refine ⟨hns, ?_⟩
  subst hns
  have a1 : at_ (graphR l3) 1 = [2] := only_of (at_nodup _ _) (fun y => by rw [mem_at]; unfold l3; simp)
  have a2 : at_ (graphR l3) 2 = [3] := only_of (at_nodup _ _) (fun y => by rw [mem_at]; unfold l3; simp)
  have a3 : at_ (graphR l3) 3 = [] := none_of (fun y => by rw [mem_at]; unfold l3; simp)
  have a4 : at_ (graphR l3) 4 = [1] := only_of (at_nodup _ _) (fun y => by rw [mem_at]; unfold l3; simp)
  have f0 : freeP (graphR l3) [1, 2, 3, 4] [] = [3] := by unfold freeP; simp [List.filter_cons, a1, a2, a3, a4]
  have f1 : freeP (graphR l3) [1, 2, 3, 4] [3] = [2] := by unfold freeP; simp [List.filter_cons, a1, a2, a3, a4]
  have f2 : freeP (graphR l3) [1, 2, 3, 4] [3, 2] = [1] := by unfold freeP; simp [List.filter_cons, a1, a2, a3, a4]
  have f3 : freeP (graphR l3) [1, 2, 3, 4] [3, 2, 1] = [4] := by unfold freeP; simp [List.filter_cons, a1, a2, a3, a4]
  show ordP _ _ 4 [] = _
  rw [ord_some f0, List.nil_append, ord_some f1]
  show ordP _ _ 2 [3, 2] = _
  rw [ord_some f2]
  show ordP _ _ 1 [3, 2, 1] = _
  rw [ord_some f3]
  rfl
theorem row_lit {W : World} {a cap : Nat} {l : List (Int × Int)} {t : TypeId} (h : W.heap[a]? = some (.cells (edgesC l).toArray t (0, 0))) (hc : l.length = cap) (hm : cap ≤ maxLen) : RowIs W 2 (.slice (some ⟨a, 0, none⟩) l.length cap) l.length (edgesC l) := by
  subst hc
  refine .inr ⟨a, l.length, rfl, edgesC_len l, Nat.le_refl _, heap_lt h, by rw [edgesC_len]; exact Nat.le_refl _, hm, fun j b hj => ?_, fun j hj => ⟨?_, free0 h j⟩⟩
  · rw [cell_of h]
    simpa using hj
  · rw [cell_of h]
    have : j < (edgesC l).length := by rw [edgesC_len]; exact hj
    simp [this]
theorem app_lit {W : World} {a : Nat} (ha : W.heap[a]? = some (.cells #[.int .i64 1, .int .i64 2, .int .i64 2, .int .i64 3, .int .i64 4, .int .i64 1] 44 (0, 0))) (ty : TypeId) : ∃ v' w', (Builtin.append_ #[24, 24] ty #[.slice (some ⟨W.heap.size, 0, none⟩) 1 1, .slice (some ⟨a, 0, none⟩) 3 3]).run Try.prog (W.alloc (.cells #[.int .i64 3, .int .i64 1] 44)) = .ok v' w' ∧ EIs w' v' l4 ∧ EIs w' (.slice (some ⟨a, 0, none⟩) 3 3) l3 ∧ Below W.heap.size W w' := by
  have hb := below_new (w := W) (.cells #[.int .i64 3, .int .i64 1] 44)
  have h1 : RowIs (W.alloc (.cells #[.int .i64 3, .int .i64 1] 44)) 2 (.slice (some ⟨W.heap.size, 0, none⟩) 1 1) 1 (edgesC [(3, 1)]) := row_lit (l := [(3, 1)]) (alloc_at W _) rfl (by unfold maxLen; omega)
  have h2 : RowIs (W.alloc (.cells #[.int .i64 3, .int .i64 1] 44)) 2 (.slice (some ⟨a, 0, none⟩) 3 3) 3 (edgesC l3) := (row_lit (l := l3) ha rfl (by unfold maxLen; decide)).below hb
  have hs : Src Try.prog 2 24 (.slice (some ⟨a, 0, none⟩) 3 3) 3 (edgesC l3) (W.alloc (.cells #[.int .i64 3, .int .i64 1] 44)) := by
    refine Src.ofSlice _ Try.underlying24 ⟨a, 0, none⟩ 3 3 (edgesC l3) rfl (fun j u hu => ?_) (fun u hu => ?_)
    · obtain ⟨A, c, e, _, _, _, _, hc⟩ := h2.form
      obtain ⟨g, e', hk⟩ := hc j u hu
      injection e with e _ _
      rw [← e] at e'
      injection e' with e'
      injection e' with e'
      rw [add0, e']
      exact hk
    · simp [edgesC, l3] at hu
      rcases hu with rfl | rfl | rfl | rfl | rfl | rfl <;> rfl
  obtain ⟨v', w', hr, h3, h4, _⟩ := run_append_row (W.alloc (.cells #[.int .i64 3, .int .i64 1] 44)) 24 44 ty 24 Try.underlying24 infoE rfl (by omega) (by omega) _ 1 3 _ _ _ h1 hs (by omega)
  have ht : Touch (fun k => k = W.heap.size) (W.alloc (.cells #[.int .i64 3, .int .i64 1] 44)) w' := (Touch.refl _ _).grown h4 (fun k hk _ => by have hk : some W.heap.size = some k := hk; exact (Option.some.inj hk).symm)
  have hlt := heap_lt ha
  exact ⟨v', w', hr, RowIs.edges (l := l4) h3, RowIs.edges (l := l3) (h2.touch ht (fun k hk e => by have hk : some a = some k := hk; injection hk with hk; have e : k = W.heap.size := e; omega)), hb.trans (ht.below (fun k e => by have e : k = W.heap.size := e; omega) hb.size)⟩
theorem l3_num : ∀ e ∈ l3, InR64 e.1 ∧ InR64 e.2 := fun e he => by
  unfold l3 at he
  simp at he
  rcases he with rfl | rfl | rfl <;> exact ⟨⟨by decide, by decide⟩, by decide, by decide⟩
theorem l4_num : ∀ e ∈ l4, InR64 e.1 ∧ InR64 e.2 := fun e he => by
  unfold l4 at he
  simp at he
  rcases he with rfl | rfl | rfl | rfl <;> exact ⟨⟨by decide, by decide⟩, by decide, by decide⟩
set_option maxRecDepth 100000 in
set_option maxHeartbeats 4000000 in
theorem awake_any (w : World) : Calls Try.prog 18 #[] w fun e w' => e = .returned (.bool true) ∧ Below w.heap.size w w' := by
  have HE1 := Lib.hid (fun W : World => edge_any W 1 2)
  have HE2 := Lib.hid (fun W : World => edge_any W 2 3)
  have HE3 := Lib.hid (fun W : World => edge_any W 4 1)
  have HE4 := Lib.hid (fun W : World => edge_any W 3 1)
  go_enter Try.func18, Try.ntmps18
  go_wp2_with fail
  refine (HE1.out _).mono ?_
  rintro e w1 ⟨rfl, hb1⟩
  have HB1 := Lib.hid hb1
  clear hb1
  go_wp2_with fail
  refine (HE2.out _).mono ?_
  rintro e w2 ⟨rfl, hb2⟩
  have HB2 := Lib.hid (HB1.out.trans (hb2.mono HB1.out.size))
  clear hb2
  go_wp2_with fail
  refine (HE3.out _).mono ?_
  rintro e w3 ⟨rfl, hb3⟩
  have HB3 := Lib.hid (HB2.out.trans (hb3.mono HB2.out.size))
  clear hb3
  go_wp2_with fail
  refine (HE4.out _).mono ?_
  rintro e w4 ⟨rfl, hb4⟩
  have hs3 : w3.heap.size < w4.heap.size := by have := hb4.size; rw [asz] at this; omega
  have ha : w4.heap[w3.heap.size]? = some (.cells #[.int .i64 1, .int .i64 2, .int .i64 2, .int .i64 3, .int .i64 4, .int .i64 1] 44 (0, 0)) := (hb4.block w3.heap.size (by rw [asz]; omega)).trans (alloc_at w3 _)
  obtain ⟨v5, w5, hr5, he4, he3, hb5⟩ := app_lit ha 24
  have hbn := below_new (w := w3) (.cells #[.int .i64 1, .int .i64 2, .int .i64 2, .int .i64 3, .int .i64 4, .int .i64 1] 44)
  have h34 : Below w3.heap.size w3 w4 := hbn.trans (hb4.mono hbn.size)
  have HB5 : Hid (Below w.heap.size w w5) := Lib.hid ((HB3.out.trans (h34.mono HB3.out.size)).trans (hb5.mono (Nat.le_trans HB3.out.size h34.size)))
  have HC := Lib.hid (circles_any he4 l4_num (by decide))
  have HE4' := Lib.hid he4
  have HE3' := Lib.hid he3
  clear hb4 hs3 ha he4 he3 hb5 hbn h34
  go_wp2_with (at_builtin; refine wpList_app_run rfl _ _ _ _ rfl rfl rfl hr5 ?_)
  clear hr5
  refine (HC.out).mono ?_
  rintro e w6 ⟨v6, c, rfl, hc, hv6, _, hb6⟩
  have := l4_circP hc
  subst this
  obtain ⟨A6, c6, e6, _, _, _, _, hcell⟩ := hv6.form
  subst e6
  obtain ⟨g6, rfl, _⟩ := hcell 2 (.int .i64 3) rfl
  have HV6 := Lib.hid hv6
  have HB6 := Lib.hid hb6
  have HE4b := Lib.hid (HE4'.out.below hb6)
  have HE3b := Lib.hid (HE3'.out.below hb6)
  clear hc hv6 hb6 hcell
  have HVI := Lib.hid (victim_any HE4b.out l4_num (by decide))
  go_wp2_with fail
  refine (HVI.out).mono ?_
  rintro e w7 ⟨n, b, rfl, hvi, hb7⟩
  obtain ⟨rfl, rfl⟩ := l4_vict hvi
  have HB7 := Lib.hid hb7
  have HRE := Lib.hid (reach_any2 (x := 4) (HE4b.out.below hb7) l4_num (by decide) (by unfold InR64; omega))
  have HE3c := Lib.hid (HE3b.out.below hb7)
  clear hvi hb7
  go_wp2_with fail
  refine (HRE.out).mono ?_
  rintro e w8 ⟨v8, r, rfl, hre, hv8, _, hb8⟩
  obtain ⟨A8, c8, e8, _⟩ := hv8.form
  subst e8
  have hrl := l4_reach hre
  rw [hrl]
  have HB8 := Lib.hid hb8
  have HOR := Lib.hid (order_any (HE3c.out.below hb8) l3_num (by decide))
  clear hre hv8 hb8 hrl
  go_wp2_with fail
  refine (HOR.out).mono ?_
  rintro e w9 ⟨v9, o, b, ns, rfl, hks, ho, hof, hot, hv9, _, hb9⟩
  obtain ⟨_, ho2⟩ := l3_order hks
  rw [ho2] at ho
  cases b with
  | false => cases ho
  | true =>
    injection ho with ho
    subst ho
    obtain ⟨A9, c9, e9, _, _, _, _, hc9⟩ := hv9.form
    subst e9
    obtain ⟨g9, rfl, k0⟩ := hc9 0 (.int .i64 3) rfl
    obtain ⟨g9', e9', k3⟩ := hc9 3 (.int .i64 4) rfl
    injection e9' with e9'
    injection e9' with e9'
    subst e9'
    have hb69 : Below w6.heap.size w6 w9 := (HB7.out.trans (HB8.out.mono HB7.out.size)).trans (hb9.mono (Nat.le_trans HB7.out.size HB8.out.size))
    have hv69 := HV6.out.below hb69
    obtain ⟨_, _, e', _, _, _, _, hc6⟩ := hv69.form
    injection e' with e1 _ _
    subst e1
    obtain ⟨g', e6', k2⟩ := hc6 2 (.int .i64 3) rfl
    injection e6' with e6'
    injection e6' with e6'
    subst e6'
    have HBF := Lib.hid ((HB5.out.trans (HB6.out.mono HB5.out.size)).trans (hb69.mono (Nat.le_trans HB5.out.size HB6.out.size)))
    clear hc9 hc6 hv69 hb69 hb9 hv9 hks hof hot
    go_wp2_with fail
    go_ret
    first | exact HBF.out | exact ⟨rfl, HBF.out⟩
end Go.Proofs.Ytmpjimoefjcmhaa
