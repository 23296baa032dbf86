/- The law's own edges: edge, ours, place, Cut. -/
import Derived.Test.YtmpjimoefjcmhaaZWaiK
set_option linter.unusedSimpArgs false
set_option linter.unusedVariables false
set_option linter.unnecessarySimpa false
namespace Go.Proofs.Ytmpjimoefjcmhaa
open Go.RowKit
open Go.Maps (Keyed)

set_option maxRecDepth 100000 in
set_option maxHeartbeats 1000000 in
theorem edge_any (w : World) (x y : Int) : Calls Try.prog 21 #[.int .i64 x, .int .i64 y] w fun e w' => e = .returned (.agg #[.int .i64 x, .int .i64 y]) ∧ Below w.heap.size w w' := by
  go_enter Try.func21, Try.ntmps21
  go_wp2_with fail
  have hat := alloc_at w (.cells #[.int .i64 x, .int .i64 y] 44)
  have c0 := cell_of hat 0
  have c1 := cell_of hat 1
  exact bodyPost_ret (v := .agg #[.int .i64 x, .int .i64 y]) (by simp [results, Try.results21, go_sem, c0, c1]) rfl ⟨rfl, below_new _⟩
set_option maxRecDepth 100000 in
set_option maxHeartbeats 2000000 in
theorem ours_any {w : World} {v : Value} {l : List (Int × Int)} (h : EIs w v l) (hl : l.length ≤ 1000) : Calls Try.prog 9 #[v] w fun e w' => ∃ v', e = .returned v' ∧ EIs w' v' l ∧ Below w.heap.size w w' := by
  have HE := Lib.hid h
  obtain ⟨A, cap, rfl, h1, h2, _⟩ := h
  unfold maxLen at h2
  have hl' : (l.length : Int) ≤ 1000 := by omega
  go_enter Try.func9, Try.ntmps9
  go_wp2_with fail
  go_loopw [3, 8] (fun av iv wr => ∃ k : Nat, k ≤ l.length ∧ iv = .int .i64 k ∧ RowIs wr 2 av (l.take k).length (edgesC (l.take k)) ∧ (∀ b, av.ownBlock = some b → w.heap.size ≤ b) ∧ Below w.heap.size w wr) (fun _ iv _ => l.length - (intOf iv).toNat)
  case atStart => exact ⟨0, Nat.zero_le _, rfl, RowIs.nil _ _, (fun b e => by cases e), Below.refl _ _⟩
  case round =>
    obtain ⟨k, hk, rfl, hr, ho, hb⟩ := hrel
    have HB := Lib.hid hb
    have HO := Lib.hid ho
    have HR := Lib.hid hr
    by_cases hlt : k < l.length
    · have hx : l[k]? = some l[k] := List.getElem?_eq_getElem hlt
      generalize l[k] = e at hx
      obtain ⟨A', cap', e', _, _, h3⟩ := HE.out.below hb
      injection e' with e1 _ e3
      subst e1 e3
      obtain ⟨a, rfl, ha, k0, k1⟩ := h3 k e hx
      obtain ⟨x, y⟩ := e
      have hi : (k : Int) < (l.length : Int) := by omega
      have k1' : wr.cell? ⟨(a.add (k * 2)).block, (a.add (k * 2)).off + 1, none⟩ = some (.int .i64 y) := k1
      have hlen : (l.take k).length ≤ 1000000 := by rw [List.length_take]; omega
      have HB9 := Lib.hid (below_new (w := wr) (.cells #[.int .i64 x, .int .i64 y] 40))
      have HED := Lib.hid (edge_any (wr.alloc (.cells #[.int .i64 x, .int .i64 y] 40)) x y)
      have HLEN := Lib.hid hlen
      have HLT := Lib.hid hlt
      have HX := Lib.hid hx
      clear h3 hx hk k1 hr ho hb hlen
      go_wp2_with fail
      refine (HED.out).mono ?_
      rintro e w2 ⟨rfl, hb2⟩
      have HB2 := Lib.hid (HB9.out.trans (hb2.mono HB9.out.size))
      obtain ⟨v1, w1, hr1, hrow1, ht1, ho1⟩ := app_edge x y 24 (HR.out.below HB2.out) HLEN.out
      have HROW : Hid (RowIs w1 2 v1 (l.take (k + 1)).length (edgesC (l.take (k + 1)))) := Lib.hid (by
        have e1 : l.take (k + 1) = l.take k ++ [(x, y)] := by
          rw [List.take_succ_eq_append_getElem HLT.out, (List.getElem?_eq_some_iff.1 HX.out).2]
        rw [e1]
        exact hrow1)
      have HO1 : Hid (∀ b, v1.ownBlock = some b → w.heap.size ≤ b) := Lib.hid (fun b e => (ho1 b e).elim (fun e => HO.out b e) (fun e => by have := HB2.out.size; have := HB.out.size; omega))
      have HB1 : Hid (Below w.heap.size w w1) := Lib.hid ((HB.out.trans (HB2.out.mono HB.out.size)).trans (ht1.below (fun b e => HO.out b e) (Nat.le_trans HB.out.size HB2.out.size)))
      clear hb2 hrow1 ht1 ho1
      go_wp2_with (at_builtin; refine wpList_app_run rfl _ _ _ _ rfl rfl rfl hr1 ?_)
      go_roundw
      case rel => exact ⟨k + 1, HLT.out, by go_num, HROW.out, HO1.out, HB1.out⟩
      case measure => have := HLT.out; simp [intOf]; omega
    · obtain rfl : k = l.length := by omega
      have HR2 : Hid (RowIs wr 2 u3 l.length (edgesC l)) := Lib.hid (by have := HR.out; rwa [List.take_length] at this)
      clear hlt hk hr ho hb
      go_wp2_with fail
      go_ret
      exact ⟨_, rfl, HR2.out.edges, HB.out⟩
set_option maxRecDepth 100000 in
set_option maxHeartbeats 2000000 in
theorem place_any {w : World} {v : Value} {l : List Int} {x : Int} (h : RowIs w 1 v l.length (ints l)) (hl : l.length ≤ 1000000000) : Calls Try.prog 19 #[v, .int .i64 x] w fun e w' => ∃ n : Int, e = .returned (.int .i64 n) ∧ (0 ≤ n ↔ x ∈ l) ∧ -1 ≤ n ∧ w' = w := by
  obtain ⟨A, cap, rfl, h1, h2, _⟩ := id h.form
  unfold maxLen at h2
  go_enter Try.func19, Try.ntmps19
  go_wp2_with fail
  have HC := Lib.hid ‹(A = none → l.length = 0 ∧ cap = 0) ∧ _›
  have HH := Lib.hid h
  have hl' : (l.length : Int) ≤ 1000000000 := by omega
  go_loopw [9] (fun iv wr => ∃ k : Nat, k ≤ l.length ∧ iv = .int .i64 k ∧ wr = w ∧ x ∉ l.take k) (fun iv _ => l.length - (intOf iv).toNat)
  case atStart => exact ⟨0, Nat.zero_le _, rfl, rfl, by simp⟩
  case round =>
    obtain ⟨k, hk, rfl, rfl, hno⟩ := hrel
    have HNO := Lib.hid hno
    by_cases hlt : k < l.length
    · have hx : l[k]? = some l[k] := List.getElem?_eq_getElem hlt
      have HMEM := Lib.hid (List.getElem_mem hlt)
      have HTK : Hid (l.take (k + 1) = l.take k ++ [l[k]]) := Lib.hid (List.take_succ_eq_append_getElem hlt)
      generalize l[k] = y at hx HMEM HTK
      obtain ⟨g, rfl, kc⟩ := HC.out.2.2 k (.int .i64 y) (by unfold ints; rw [List.getElem?_map, hx]; rfl)
      have hi : (k : Int) < (l.length : Int) := by omega
      have HLT := Lib.hid hlt
      by_cases he : y = x
      · have hb : (y == x) = true := by rw [he]; exact beq_self_eq_true x
        have HE := Lib.hid he
        clear hx hno hk he h
        go_wp2_with fail
        go_ret
        exact ⟨_, rfl, ⟨fun _ => by rw [← HE.out]; exact HMEM.out, fun _ => by omega⟩, by omega, rfl⟩
      · have hb : (y == x) = false := by rw [beq_eq_false_iff_ne]; exact he
        have HE := Lib.hid he
        clear hx hno hk he h
        go_wp2_with fail
        go_roundw
        case rel => exact ⟨k + 1, HLT.out, by go_num, by first | rfl | trivial, by rw [HTK.out, List.mem_append, List.mem_singleton]; exact fun h => h.elim HNO.out (fun h => HE.out h.symm)⟩
        case measure => have := HLT.out; simp [intOf]; omega
    · obtain rfl : k = l.length := by omega
      have HN2 : Hid (x ∉ l) := Lib.hid (by have := HNO.out; rwa [List.take_length] at this)
      clear hlt hk hno h
      go_wp2_with fail
      go_ret
      exact ⟨-1, rfl, ⟨fun h => by omega, fun h => absurd h HN2.out⟩, by omega, rfl⟩
end Go.Proofs.Ytmpjimoefjcmhaa
