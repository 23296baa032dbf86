/- trie: slices.Index of a row of numbers; Meet; Prefers. -/
import Derived.Test.YtpploljennbpdaaDoorZTriL
set_option linter.unusedSimpArgs false
set_option linter.unusedVariables false
set_option linter.unnecessarySimpa false
namespace Go.Proofs.YtpploljennbpdaaDoor
open Go.RowKit Go.Shelf
attribute [local go_sem] Oper.semAt_some

/-- The first place of a number; -1: none. -/
def idxI (l : List Int) (x : Int) : Int := if x ∈ l then (l.idxOf x : Int) else -1
theorem idx_first {l : List Int} {x : Int} {k : Nat} (hx : l[k]? = some x) (hno : x ∉ l.take k) : l.idxOf x = k := by
  have hkl := (List.getElem?_eq_some_iff.1 hx).1
  rw [← List.take_append_drop k l, List.idxOf_append, if_neg hno, List.length_take, Nat.min_eq_left (Nat.le_of_lt hkl)]
  have hd : l.drop k = x :: l.drop (k + 1) := by
    rw [List.drop_eq_getElem_cons hkl]
    congr 1
    exact (List.getElem?_eq_some_iff.1 hx).2
  rw [hd, List.idxOf_cons_self]
  omega
set_option maxRecDepth 100000 in
set_option maxHeartbeats 2000000 in
theorem index_any {w : World} {v : Value} {l : List Int} {x : Int} (h : RowIs w 1 v l.length (ints l)) (hl : l.length ≤ 1000000000) : Calls Tryd.prog 37 #[v, .int .i64 x] w fun e w' => e = .returned (.int .i64 (idxI l x)) ∧ w' = w := by
  obtain ⟨A, cap, rfl, h1, h2, _⟩ := id h.form
  unfold maxLen at h2
  have HC := Lib.hid ‹(A = none → l.length = 0 ∧ cap = 0) ∧ _›
  have HH := Lib.hid h
  have hl' : (l.length : Int) ≤ 1000000000 := by omega
  clear h
  go_enter Tryd.func37, Tryd.ntmps37
  go_wp2_with fail
  go_loopw [8] (fun iv wr => ∃ k : Nat, k ≤ l.length ∧ iv = .int .i64 k ∧ wr = w ∧ x ∉ l.take k) (fun iv _ => l.length - (intOf iv).toNat)
  case atStart => exact ⟨0, Nat.zero_le _, rfl, rfl, by simp⟩
  case round =>
    obtain ⟨k, hk, rfl, rfl, hno⟩ := hrel
    have HNO := Lib.hid hno
    by_cases hlt : k < l.length
    · have hx : l[k]? = some l[k] := List.getElem?_eq_getElem hlt
      have HTK : Hid (l.take (k + 1) = l.take k ++ [l[k]]) := Lib.hid (List.take_succ_eq_append_getElem hlt)
      generalize l[k] = y at hx HTK
      obtain ⟨g, rfl, kc⟩ := HC.out.2.2 k (.int .i64 y) (by unfold ints; rw [List.getElem?_map, hx]; rfl)
      have hi : (k : Int) < (l.length : Int) := by omega
      have HLT := Lib.hid hlt
      by_cases he : y = x
      · subst he
        have hb : (y == y) = true := beq_self_eq_true y
        have HE : Hid (idxI l y = (k : Int)) := Lib.hid (by unfold idxI; rw [if_pos (List.mem_of_getElem? hx), idx_first hx hno])
        clear hx hno hk
        go_wp2_with fail
        refine bodyPost_ret (v := .int .i64 k) (by simp [results, Tryd.results37, go_sem]) rfl ⟨by rw [HE.out], rfl⟩
      · have hb : (x == y) = false := by rw [beq_eq_false_iff_ne]; exact fun e => he e.symm
        have HE := Lib.hid he
        clear hx hno hk he
        go_wp2_with fail
        go_roundw
        case rel => exact ⟨k + 1, HLT.out, by go_num, by first | rfl | trivial, by rw [HTK.out, List.mem_append, List.mem_singleton]; exact fun h => h.elim HNO.out (fun h => HE.out h.symm)⟩
        case measure => have := HLT.out; simp [intOf]; omega
    · obtain rfl : k = l.length := by omega
      have HE : Hid (idxI l x = -1) := Lib.hid (by have := hno; rw [List.take_length] at this; unfold idxI; rw [if_neg this])
      clear hlt hk hno
      go_wp2_with fail
      refine bodyPost_ret (v := .int .i64 (-1)) (by simp [results, Tryd.results37, go_sem]) rfl ⟨by rw [HE.out], rfl⟩
end Go.Proofs.YtpploljennbpdaaDoor
