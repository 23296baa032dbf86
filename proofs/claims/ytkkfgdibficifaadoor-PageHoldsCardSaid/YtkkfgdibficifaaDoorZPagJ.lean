/- How many rows there are. -/
import Derived.Test.YtkkfgdibficifaaDoorZPagI
set_option linter.unusedSimpArgs false
set_option linter.unusedVariables false
set_option linter.unnecessarySimpa false
namespace Go.Proofs.YtkkfgdibficifaaDoor
open Go.RowKit Go.Shelf Go.Sort Go.Lib

theorem flat_take {P : List (List Row)} {i : Nat} {p : List Row} (h : P[i]? = some p) : (P.take (i + 1)).flatten.length = (P.take i).flatten.length + p.length := by
  rw [List.take_add_one, h]
  simp
theorem flat_le {P : List (List Row)} (i : Nat) : (P.take i).flatten.length ≤ P.flatten.length := by
  have : P.flatten = (P.take i).flatten ++ (P.drop i).flatten := by rw [← List.flatten_append, List.take_append_drop]
  rw [this, List.length_append]
  omega
set_option maxRecDepth 100000 in
set_option maxHeartbeats 4000000 in
theorem Len_any {w : World} {s most : Nat} {v : Value} {L : List Pl} {P : List (List Row)} (h : St w s most v L P) (hl : P.flatten.length ≤ 100000) :
    Calls Tryd.prog 16 #[.pointer (some ⟨s, 0, none⟩)] w fun e w' => e = .returned (.int .i64 P.flatten.length) ∧ Below w.heap.size w w' := by
  obtain ⟨A, c, hv, hc1, hc2, _⟩ := h.row.form
  unfold maxLen at hc2
  have ks : w.cell? ⟨s, 1, none⟩ = some v := cell_of h.head 1
  rw [hv] at ks
  have H := Lib.hid h
  have HV := Lib.hid hv
  have hF : (P.flatten.length : Int) ≤ 100000 := by omega
  clear h hv
  go_enter Tryd.func16, Tryd.ntmps16
  go_wp2_with fail
  go_loopw [3, 13] (fun nv iv wr => ∃ i : Nat, i ≤ P.length ∧ iv = .int .i64 i ∧ nv = .int .i64 ((P.take i).flatten.length : Nat) ∧ w = wr) (fun _ iv _ => P.length - (intOf iv).toNat)
  case atStart => exact ⟨0, Nat.zero_le _, rfl, by simp, rfl⟩
  case round =>
    obtain ⟨i, hi, rfl, rfl, rfl⟩ := hrel
    by_cases hlt : i < P.length
    · have hp : P[i]? = some P[i] := List.getElem?_eq_getElem hlt
      generalize P[i] = p at hp
      obtain ⟨a, g, c', ha, hv2, _, _, kc, hA, hac⟩ := row_page H.out hp
      have hv3 := HV.out.symm.trans hv2
      injection hv3 with e1 _ e3
      subst e1 e3
      have h1 := flat_take hp
      have h2 := flat_le (P := P) (i + 1)
      have HT := Lib.hid h1
      have hiI : (i : Int) < (P.length : Int) := by omega
      have hn : ((P.take i).flatten.length : Int) + (p.length : Int) ≤ 100000 := by omega
      obtain ⟨n, hn1⟩ : ∃ n, (P.take i).flatten.length = n := ⟨_, rfl⟩
      rw [hn1] at hn HT ⊢
      have hw : IntKind.i64.wrap ((n : Int) + (p.length : Int)) = (n : Int) + (p.length : Int) := IntWalk.i64_in _ (by omega)
      have HLT := Lib.hid hlt
      clear h1 h2 hA hac hp ha hn1 hlt
      go_wp2_with fail
      go_roundw
      case rel => exact ⟨i + 1, HLT.out, by go_num, by rw [HT.out]; simp, trivial⟩
      case measure => have := HLT.out; simp [intOf]; omega
    · obtain rfl : i = P.length := by omega
      have hT : Hid (P.take P.length = P) := Lib.hid (List.take_length)
      rw [hT.out]
      go_wp2_with fail
      go_ret
      exact ⟨by simp, Below.refl _ _⟩
end Go.Proofs.YtkkfgdibficifaaDoor
