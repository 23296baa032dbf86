/- turn; all. -/
import Derived.Test.YtlbhpeeggbfcpaaZWaiG
set_option linter.unusedSimpArgs false
set_option linter.unusedVariables false
set_option linter.unnecessarySimpa false
namespace Go.Proofs.Ytlbhpeeggbfcpaa
open Go.RowKit
open Go.Maps (Keyed)

def edgesC (l : List (Int × Int)) : List Value := l.flatMap fun e => [.int .i64 e.1, .int .i64 e.2]
theorem edgesC_len (l : List (Int × Int)) : (edgesC l).length = l.length * 2 := by
  unfold edgesC
  induction l with
  | nil => rfl
  | cons e l ih => rw [List.flatMap_cons, List.length_append, ih, List.length_cons]; simp; omega
theorem edgesC_get {l : List (Int × Int)} : ∀ {i : Nat} {e : Int × Int}, l[i]? = some e → (edgesC l)[i * 2]? = some (.int .i64 e.1) ∧ (edgesC l)[i * 2 + 1]? = some (.int .i64 e.2) := by
  induction l with
  | nil => intro i e h; simp at h
  | cons x l ih =>
    intro i e h
    cases i with
    | zero =>
      obtain rfl : x = e := by simpa using h
      exact ⟨rfl, rfl⟩
    | succ i =>
      rw [List.getElem?_cons_succ] at h
      have := ih h
      rw [show (i + 1) * 2 = i * 2 + 2 from by omega]
      exact this
theorem edgesC_snoc (l : List (Int × Int)) (e : Int × Int) : edgesC (l ++ [e]) = edgesC l ++ [.int .i64 e.1, .int .i64 e.2] := by unfold edgesC; simp
theorem RowIs.edges {w : World} {v : Value} {l : List (Int × Int)} (h : RowIs w 2 v l.length (edgesC l)) : EIs w v l := by
  rcases h with ⟨rfl, h1, h2⟩ | ⟨g, cap, rfl, h1, h2, h3⟩
  · obtain rfl : l = [] := List.eq_nil_of_length_eq_zero h1
    exact ⟨none, 0, rfl, Nat.le_refl _, by unfold maxLen; omega, fun i x hx => by simp at hx⟩
  · refine ⟨_, cap, rfl, h2, h3.max, fun i e he => ⟨⟨g, 0, none⟩, rfl, h3.lt, ?_, ?_⟩⟩
    · rw [add0]
      exact h3.holds _ _ (edgesC_get he).1
    · rw [add0]
      exact h3.holds _ _ (edgesC_get he).2
theorem infoE : (Try.prog.info? 39).map (fun i => (i.zero, i.size, i.bytes)) = some (some (.agg #[.int .i64 0, .int .i64 0]), 2, 16) := by kernel_rfl
theorem app_edge {w : World} {v : Value} {l : List (Int × Int)} (x y : Int) (ty : TypeId) (h : RowIs w 2 v l.length (edgesC l)) (hl : l.length ≤ 1000000) : ∃ v' w', (Builtin.append_ #[33, 33] ty #[v, .slice (some ⟨w.heap.size, 0, none⟩) 1 1]).run Try.prog (w.alloc (.cells #[.int .i64 x, .int .i64 y] 39)) = .ok v' w' ∧ RowIs w' 2 v' (l ++ [(x, y)]).length (edgesC (l ++ [(x, y)])) ∧ Touch (fun k => v.ownBlock = some k) w w' ∧ (∀ k, v'.ownBlock = some k → v.ownBlock = some k ∨ w.heap.size ≤ k) := by
  have hb := below_new (w := w) (.cells #[.int .i64 x, .int .i64 y] 39)
  have hsrc : Src Try.prog 2 33 (.slice (some ⟨w.heap.size, 0, none⟩) 1 1) 1 [.int .i64 x, .int .i64 y] (w.alloc (.cells #[.int .i64 x, .int .i64 y] 39)) :=
    Src.ofSlice _ Try.underlying33 ⟨w.heap.size, 0, none⟩ 1 1 [.int .i64 x, .int .i64 y] rfl (fun j u hu => by
      rw [add0, cell_of (alloc_at w _)]
      simpa using hu) (by simp [Value.oneCell'])
  obtain ⟨v', w', hr, h2, h3, h4⟩ := run_append_row (w.alloc (.cells #[.int .i64 x, .int .i64 y] 39)) 33 39 ty 33 Try.underlying33 infoE rfl (by omega) (by omega) v l.length 1 (edgesC l) [.int .i64 x, .int .i64 y] _ (h.below hb) hsrc (by omega)
  refine ⟨v', w', hr, by rw [List.length_append, edgesC_snoc]; exact h2, (Touch.of_below hb).grown h3 (fun k hk _ => hk), fun k hk => ?_⟩
  rcases h4 with e | e
  · exact .inl (e ▸ hk)
  · right
    rw [e] at hk
    have := Option.some.inj hk
    rw [asz] at this
    omega
def swapE (l : List (Int × Int)) : List (Int × Int) := l.map fun e => (e.2, e.1)
set_option maxRecDepth 100000 in
set_option maxHeartbeats 2000000 in
theorem turn_any {w : World} {v : Value} {l : List (Int × Int)} (h : EIs w v l) (hl : l.length ≤ 1000) : Calls Try.prog 27 #[v] w fun e w' => ∃ v', e = .returned v' ∧ EIs w' v' (swapE l) ∧ Below w.heap.size w w' := by
  have HE := Lib.hid h
  obtain ⟨A, cap, rfl, h1, h2, _⟩ := h
  unfold maxLen at h2
  have hl' : (l.length : Int) ≤ 1000 := by omega
  go_enter Try.func27, Try.ntmps27
  go_wp2_with fail
  go_loopw [3, 8] (fun av iv wr => ∃ k : Nat, k ≤ l.length ∧ iv = .int .i64 k ∧ RowIs wr 2 av (swapE (l.take k)).length (edgesC (swapE (l.take k))) ∧ (∀ b, av.ownBlock = some b → w.heap.size ≤ b) ∧ Below w.heap.size w wr) (fun _ iv _ => l.length - (intOf iv).toNat)
  case atStart => exact ⟨0, Nat.zero_le _, rfl, RowIs.nil _ _, (fun b e => by cases e), Below.refl _ _⟩
  case round =>
    obtain ⟨k, hk, rfl, hr, ho, hb⟩ := hrel
    have HB := Lib.hid hb
    have HO := Lib.hid ho
    have HR := Lib.hid hr
    by_cases hlt : k < l.length
    · have hx : l[k]? = some l[k] := List.getElem?_eq_getElem hlt
      generalize l[k] = e at hx
      obtain ⟨A', cap', e', _, _, h3⟩ := HE.out.below hb
      injection e' with e1 _ e3
      subst e1 e3
      obtain ⟨a, rfl, ha, k0, k1⟩ := h3 k e hx
      obtain ⟨x, y⟩ := e
      have hi : (k : Int) < (l.length : Int) := by omega
      have k1' : wr.cell? ⟨(a.add (k * 2)).block, (a.add (k * 2)).off + 1, none⟩ = some (.int .i64 y) := k1
      have hlen : (swapE (l.take k)).length ≤ 1000000 := by unfold swapE; rw [List.length_map, List.length_take]; omega
      have hb9 := below_new (w := wr) (.cells #[.int .i64 x, .int .i64 y] 39)
      obtain ⟨v1, w1, hr1, hrow1, ht1, ho1⟩ := app_edge y x 33 (HR.out.below hb9) hlen
      rw [asz] at hr1
      have HROW : Hid (RowIs w1 2 v1 (swapE (l.take (k + 1))).length (edgesC (swapE (l.take (k + 1))))) := Lib.hid (by
        have e1 : swapE (l.take (k + 1)) = swapE (l.take k) ++ [(y, x)] := by
          rw [List.take_succ_eq_append_getElem hlt, (List.getElem?_eq_some_iff.1 hx).2]
          unfold swapE
          rw [List.map_append]
          rfl
        rw [e1]
        exact hrow1)
      have HO1 : Hid (∀ b, v1.ownBlock = some b → w.heap.size ≤ b) := Lib.hid (fun b e => (ho1 b e).elim (fun e => ho b e) (fun e => by have := hb9.size; have := hb.size; omega))
      have HB1 : Hid (Below w.heap.size w w1) := Lib.hid ((hb.trans (hb9.mono hb.size)).trans (ht1.below (fun b e => ho b e) (Nat.le_trans hb.size hb9.size)))
      have HLT := Lib.hid hlt
      clear h3 hx hk k1 hr ho hb hlen hb9 hrow1 ht1 ho1
      go_wp2_with (at_builtin; refine wpList_app_run rfl _ _ _ _ rfl rfl rfl hr1 ?_)
      go_roundw
      case rel => exact ⟨k + 1, HLT.out, by go_num, HROW.out, HO1.out, HB1.out⟩
      case measure => have := HLT.out; simp [intOf]; omega
    · obtain rfl : k = l.length := by omega
      have HR2 : Hid (RowIs wr 2 u3 (swapE l).length (edgesC (swapE l))) := Lib.hid (by have := HR.out; rwa [List.take_length] at this)
      clear hlt hk hr ho hb
      go_wp2_with fail
      go_ret
      exact ⟨_, rfl, HR2.out.edges, HB.out⟩
end Go.Proofs.Ytlbhpeeggbfcpaa
