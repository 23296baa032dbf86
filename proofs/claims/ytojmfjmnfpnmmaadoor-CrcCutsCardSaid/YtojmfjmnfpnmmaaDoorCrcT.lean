/- Of frames one behind the other, cut anywhere: which are told. Two rows of one's own, apart. -/
import Derived.Test.YtojmfjmnfpnmmaaDoorCrcK
import Derived.Test.YtojmfjmnfpnmmaaDoorCrcI
set_option linter.unusedSimpArgs false
set_option linter.unusedVariables false
set_option linter.unnecessarySimpa false
namespace Go.Proofs.YtojmfjmnfpnmmaaDoor
open Go.RowKit

theorem frs_cons (m : List UInt8) (ms : List (List UInt8)) : frs (m :: ms) = frameB m ++ frs ms := by simp [frs]
theorem endP_cons (m : List UInt8) (ms : List (List UInt8)) : endP (m :: ms) = m.length + 7 + endP ms := by unfold endP; rw [frs_cons, List.length_append, frameB_len]
theorem cut_parse : ∀ (ls ms : List (List UInt8)) (i : Nat), (∀ m ∈ ms, m.length ≤ 16384) → i ≤ endP ms → Begins ((frs ms).take i) ls → firstP (((frs ms).take i).drop (endP ls)) = 0 →
    ∃ j, j ≤ ms.length ∧ ls = ms.take j ∧ endP (ms.take j) ≤ i ∧ (j < ms.length → i < endP (ms.take (j + 1)))
  | [], [], i, _, _, _, _ => ⟨0, Nat.le_refl _, rfl, Nat.zero_le _, fun h => absurd h (Nat.lt_irrefl _)⟩
  | [], m :: ms, i, hm, hi, _, hf => by
    refine ⟨0, Nat.zero_le _, rfl, Nat.zero_le _, fun _ => ?_⟩
    have e : endP (List.take (0 + 1) (m :: ms)) = m.length + 7 := by
      show endP [m] = _
      rw [endP_cons]; rfl
    rw [e]
    refine Classical.byContradiction fun hc => ?_
    have h16 := hm m (.head _)
    have e2 : (frs (m :: ms)).take i = frameB m ++ (frs ms).take (i - (m.length + 7)) := by
      rw [frs_cons, List.take_append, frameB_len, List.take_of_length_le (by rw [frameB_len]; omega)]
    have h0 : endP ([] : List (List UInt8)) = 0 := rfl
    rw [h0, List.drop_zero, e2, firstP_frame h16] at hf
    omega
  | a :: ls, ms, i, hm, hi, hb, hf => by
    have ha := hb.le a (.head _)
    have heq := hb.eq
    rw [frs_cons, List.append_assoc] at heq
    cases ms with
    | nil =>
      exfalso
      have h1 : (frs []).take i = [] := by simp [frs]
      have h2 := congrArg List.length heq
      rw [h1, List.length_append, frameB_len] at h2
      simp at h2; omega
    | cons m ms =>
      have h16 := hm m (.head _)
      by_cases hlt : i < m.length + 7
      · exfalso
        have e2 : (frs (m :: ms)).take i = (frameB m).take i := by
          rw [frs_cons, List.take_append_of_le_length (by rw [frameB_len]; omega)]
        have h3 := firstP_cut h16 hlt
        rw [← e2, heq, firstP_frame ha] at h3
        omega
      · have e2 : (frs (m :: ms)).take i = frameB m ++ (frs ms).take (i - (m.length + 7)) := by
          rw [frs_cons, List.take_append, frameB_len, List.take_of_length_le (by rw [frameB_len]; omega)]
        rw [e2] at hb hf heq
        obtain ⟨rfl, h5⟩ := frameB_inj h16 ha heq
        have hd : ∀ n, (frameB m ++ (frs ms).take (i - (m.length + 7))).drop (m.length + 7 + n) = ((frs ms).take (i - (m.length + 7))).drop n := fun n => by
          rw [← List.drop_drop, ← frameB_len m, List.drop_left]
        rw [endP_cons, hd] at h5 hf
        rw [endP_cons] at hi
        obtain ⟨j, hj, rfl, h7, h8⟩ := cut_parse ls ms (i - (m.length + 7)) (fun k hk => hm k (.tail _ hk)) (by omega) ⟨h5, fun k hk => hb.le k (.tail _ hk)⟩ hf
        refine ⟨j + 1, by simpa using hj, rfl, ?_, fun h => ?_⟩
        · rw [List.take_succ_cons, endP_cons]; omega
        · have := h8 (by simpa using h)
          rw [List.take_succ_cons, endP_cons]; omega
theorem endP_take_le (ms : List (List UInt8)) {a b : Nat} (h : a ≤ b) : endP (ms.take a) ≤ endP (ms.take b) := by
  have e : ms.take b = ms.take a ++ (ms.take b).drop a := by
    have : ms.take a = (ms.take b).take a := by rw [List.take_take, Nat.min_eq_left h]
    rw [this, List.take_append_drop]
  have : frs (ms.take b) = frs (ms.take a) ++ frs ((ms.take b).drop a) := by
    conv => lhs; rw [e]
    unfold frs
    rw [List.flatMap_append]
  unfold endP
  rw [this, List.length_append]
  omega
theorem endP_le (ms : List (List UInt8)) (h : ∀ m ∈ ms, m.length ≤ 200) : endP ms ≤ 207 * ms.length := by
  induction ms with
  | nil => exact Nat.le_refl _
  | cons m ms ih =>
    rw [endP_cons, List.length_cons]
    have := h m (.head _)
    have := ih (fun k hk => h k (.tail _ hk))
    omega
/-- The ends of the frames, as cells. -/
def endsV (ms : List (List UInt8)) : List Value := (List.range ms.length).map fun j => Value.int .i64 (endP (ms.take (j + 1)) : Nat)
theorem endsV_len (ms : List (List UInt8)) : (endsV ms).length = ms.length := by simp [endsV]
theorem endsV_snoc (ms : List (List UInt8)) (m : List UInt8) : endsV (ms ++ [m]) = endsV ms ++ [.int .i64 (endP (ms ++ [m]) : Nat)] := by
  unfold endsV
  rw [List.length_append, List.length_singleton, List.range_succ, List.map_append]
  congr 1
  · refine List.map_congr_left fun j hj => ?_
    rw [List.take_append_of_le_length (by have := List.mem_range.1 hj; omega)]
  · simp only [List.map_cons, List.map_nil]
    rw [List.take_of_length_le (by simp)]
theorem endsV_at {ms : List (List UInt8)} {k : Nat} (hk : k < ms.length) : (endsV ms)[k]? = some (.int .i64 (endP (ms.take (k + 1)) : Nat)) := by
  unfold endsV
  rw [List.getElem?_map, List.getElem?_range hk]; rfl

/-! two rows of one's own, apart -/
structure Two (w : World) (base : Nat) (u : Value) (n : Nat) (lu : List Value) (v : Value) (m : Nat) (lv : List Value) : Prop where
  left : RowIs w 1 u n lu
  right : RowIs w 1 v m lv
  ownL : ∀ g, u.ownBlock = some g → base ≤ g
  ownR : ∀ g, v.ownBlock = some g → base ≤ g
  apart : ∀ g, u.ownBlock = some g → v.ownBlock ≠ some g
section
variable {w w' : World} {base : Nat} {u v u' : Value} {n m n' : Nat} {lu lv lu' : List Value}
theorem Two.symm (h : Two w base u n lu v m lv) : Two w base v m lv u n lu := ⟨h.right, h.left, h.ownR, h.ownL, fun g hg hu => h.apart g hu hg⟩
theorem Two.below (h : Two w base u n lu v m lv) (hb : Below w.heap.size w w') : Two w' base u n lu v m lv := ⟨h.left.below hb, h.right.below hb, h.ownL, h.ownR, h.apart⟩
theorem Two.grow (h : Two w base u n lu v m lv) (hr : RowIs w' 1 u' n' lu') (hg : w.grownBy w' u.ownBlock) (hu : u'.ownBlock = u.ownBlock ∨ u'.ownBlock = some w.heap.size) (hB : base ≤ w.heap.size) : Two w' base u' n' lu' v m lv := by
  refine ⟨hr, h.right.keep hg.size (fun g hgv => hg.block g (h.right.lt g hgv) (fun e => h.apart g e.symm hgv)), fun g hg' => ?_, h.ownR, fun g hg' hv => ?_⟩
  · rcases hu with e | e
    · exact h.ownL g (e ▸ hg')
    · rw [e] at hg'; cases hg'; exact hB
  · rcases hu with e | e
    · exact h.apart g (e ▸ hg') hv
    · rw [e] at hg'; cases hg'
      exact absurd (h.right.lt _ hv) (Nat.lt_irrefl _)
end
theorem RowIs.bis {w : World} {v : Value} {l : List UInt8} (h : RowIs w 1 v l.length (bc l)) : BIs w v l := by
  obtain ⟨A, cap, rfl, h1, h2, h3, h4, h5⟩ := h.form
  refine ⟨A, cap, rfl, h1, h2, fun i b hi => ?_⟩
  obtain ⟨g, rfl, hc⟩ := h5 i _ (bc_some hi)
  obtain ⟨g', e, hg'⟩ := h4 _ rfl
  cases e
  exact ⟨_, rfl, h.lt _ hg', by rw [add0]; exact hc⟩
theorem BIs.upto {w : World} {A : Option Addr} {n cap : Nat} {l : List UInt8} (h : BIs w (.slice A n cap) l) (k : Nat) (hk : k ≤ l.length) : BIs w (.slice A k cap) (l.take k) := by
  obtain ⟨A', c', e, h1, h2, h3⟩ := h
  cases e
  refine ⟨A, cap, by rw [List.length_take, Nat.min_eq_left hk], by rw [List.length_take]; omega, h2, fun i b hi => ?_⟩
  rw [List.getElem?_take] at hi
  split at hi
  · exact h3 i b hi
  · cases hi
theorem short_lit {w : World} {A : Option Addr} {n cap : Nat} (hn : n ≤ cap) (hc : cap ≤ maxLen) : Calls Tryd.prog 7 #[.slice A n cap] w fun e w' => e = .returned (.slice A (min n 200) cap) ∧ w = w' := by
  unfold maxLen at hc
  by_cases h : 200 < n
  · have q1 : (200 : Int) < (n : Int) := by omega
    have q2 : 200 ≤ cap := by omega
    have q3 : min n 200 = 200 := by omega
    rw [q3]
    go_enter Tryd.func7, Tryd.ntmps7
    go_wp2_with fail
    go_ret
    exact ⟨rfl, rfl⟩
  · have q1 : ¬ (200 : Int) < (n : Int) := by omega
    have q3 : min n 200 = n := by omega
    rw [q3]
    go_enter Tryd.func7, Tryd.ntmps7
    go_wp2_with fail
    go_ret
    exact ⟨rfl, rfl⟩
end Go.Proofs.YtojmfjmnfpnmmaaDoor
