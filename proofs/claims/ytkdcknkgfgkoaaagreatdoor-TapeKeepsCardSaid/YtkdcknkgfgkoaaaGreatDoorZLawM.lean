/- TapeKeeps: the law's step: Append: what it needs. -/
import Derived.Test.YtkdcknkgfgkoaaaGreatDoorZLawG
set_option linter.unusedSimpArgs false
set_option linter.unusedVariables false
set_option linter.unnecessarySimpa false
namespace Go.Proofs.YtkdcknkgfgkoaaaGreatDoor
open Go.RowKit

theorem bis_from {w : World} {a : Addr} {n cap : Nat} {l : List UInt8} (h : BIs w (.slice (some a) n cap) l) (k : Nat) (hk : k ≤ l.length) : BIs w (.slice (some (a.add k)) (n - k) (cap - k)) (l.drop k) := by
  obtain ⟨A', c', e, h1, h2, h3⟩ := h
  cases e
  refine ⟨some (a.add k), cap - k, by rw [List.length_drop], by rw [List.length_drop]; omega, by omega, fun i b hi => ?_⟩
  rw [List.getElem?_drop] at hi
  obtain ⟨a', e, q2, q3⟩ := h3 (k + i) b hi
  cases e
  refine ⟨_, rfl, by rw [add_block]; exact q2, ?_⟩
  have : (a.add k).add i = a.add (k + i) := by
    by_cases e1 : k = 0
    · subst e1; simp [Addr.add]
    · by_cases e2 : i = 0
      · subst e2; simp [Addr.add]
      · simp [Addr.add, e1, e2, Nat.add_assoc]
  rw [this]
  exact q3
theorem bis_keep {w w' : World} {a : Addr} {n c : Nat} {l : List UInt8} (h : BIs w (.slice (some a) n c) l) (hs : w.heap.size ≤ w'.heap.size) (hk : w'.heap[a.block]? = w.heap[a.block]?) : BIs w' (.slice (some a) n c) l := by
  obtain ⟨A', c', e, h1, h2, h3⟩ := h
  cases e
  refine ⟨some a, c, rfl, h1, h2, fun i b hi => ?_⟩
  obtain ⟨a', e, q2, q3⟩ := h3 i b hi
  cases e
  exact ⟨_, rfl, Nat.lt_of_lt_of_le q2 hs, (World.cell?_of_block (a := a.add i) (by rw [add_block]; exact hk)).trans q3⟩
theorem bis_zero (w : World) (A : Option Addr) {c : Nat} (hc : c ≤ maxLen) : BIs w (.slice A 0 c) [] := ⟨A, c, rfl, Nat.zero_le _, hc, fun i b hi => by simp at hi⟩
theorem pair_pis {w : World} {g : Nat} {s1 s2 : Value} {ty : TypeId} {fr : Nat × Nat} {l1 l2 : List UInt8} (hb : w.heap[g]? = some (.cells #[s1, s2] ty fr)) (h1 : BIs w s1 l1) (h2 : BIs w s2 l2) : PIs w (.slice (some ⟨g, 0, none⟩) 2 2) [l1, l2] := by
  refine ⟨some ⟨g, 0, none⟩, 2, rfl, Nat.le_refl _, by unfold maxLen; omega, fun i l hi => ?_⟩
  match i, hi with
  | 0, hi =>
    simp at hi
    subst hi
    refine ⟨⟨g, 0, none⟩, s1, rfl, heap_lt hb, ?_, h1⟩
    have := cell_of hb 0
    rw [add0]
    exact this
  | 1, hi =>
    simp at hi
    subst hi
    refine ⟨⟨g, 0, none⟩, s2, rfl, heap_lt hb, ?_, h2⟩
    have := cell_of hb 1
    rw [add0]
    exact this
  | i + 2, hi => simp at hi

/-- Behind the tape's change, ahead of the reference's, where something else may yet be turned. -/
def MidG (w0 : World) (S : Nat → Prop) (t r : Nat) (R : RTp) (q : Pl) (w : World) : Prop := ∃ T, TapeAt w t T ∧ (plT T).Eq q ∧ RefOk w r R ∧ Glob w0 ∧ Below w0.heap.size w0 w ∧ (∀ k ∈ T.blocks t, w0.heap.size ≤ k) ∧ (∀ k, RBlk r R k → w0.heap.size ≤ k) ∧ (∀ k ∈ T.blocks t, ¬ RBlk r R k) ∧ ∀ k, S k → k ∉ T.blocks t ∧ ¬ RBlk r R k ∧ w0.heap.size ≤ k
theorem MidG.mid {w0 w : World} {S : Nat → Prop} {t r : Nat} {R : RTp} {q : Pl} (h : MidG w0 S t r R q w) : Mid w0 t r R q w := by
  obtain ⟨T, h1, h2, h3, h4, h5, h6, h7, h8, h9⟩ := h
  exact ⟨T, h1, h2, h3, h4, h5, h6, h7, h8⟩
theorem MidG.touch {w0 w w' : World} {S : Nat → Prop} {t r : Nat} {R : RTp} {q : Pl} (h : MidG w0 S t r R q w) (ht : Touch S w w') : MidG w0 S t r R q w' := by
  obtain ⟨T, h1, h2, h3, h4, h5, h6, h7, h8, h9⟩ := h
  exact ⟨T, h1.touch ht (fun k hk hS => (h9 k hS).1 hk), h2, h3.touch ht (fun k hk hS => (h9 k hS).2.1 hk), h4, h5.trans (ht.below (fun i hi => (h9 i hi).2.2) h5.size), h6, h7, h8, h9⟩
theorem TR.tdoG {w0 w w1 : World} {S : Nat → Prop} {t r : Nat} {T : Tp} {R : RTp} (h : TR w0 w t r T R) {q : Pl} (hd : TDoP w t T q w1) (hS : ∀ k, S k → k < w.heap.size ∧ k ∉ T.blocks t ∧ ¬ RBlk r R k ∧ w0.heap.size ≤ k) : MidG w0 S t r R q w1 := by
  obtain ⟨T', h1, h2, h3, h4⟩ := hd
  have hb : Below w0.heap.size w w1 := h3.below h.newT h.below.size
  refine ⟨T', h1, h2, h.ref.touch h3 (fun k hk hT => h.apart k hT hk), h.glob, h.below.trans hb, fun k hk => ?_, h.newR, fun k hk hR => ?_, fun k hk => ⟨fun hT => ?_, (hS k hk).2.2.1, (hS k hk).2.2.2⟩⟩
  · rcases h4 k hk with hk | hk
    · exact h.newT k hk
    · have := h.below.size; omega
  · rcases h4 k hk with hk | hk
    · exact h.apart k hk hR
    · have := h.ref.lt k hR; omega
  · rcases h4 k hT with hT | hT
    · exact (hS k hk).2.1 hT
    · have := (hS k hk).1; omega

def AStep (w0 w : World) (S : Nat → Prop) (t r : Nat) (R : RTp) (q : Pl) (ans : Int) (V : World) (e : Ending) (w' : World) : Prop := e = .returned (.int .i64 ans) ∧ MidG w0 S t r R q w' ∧ (∀ k, w.heap.size ≤ k → k < V.heap.size → w'.heap[k]? = V.heap[k]?) ∧ V.heap.size ≤ w'.heap.size
theorem TR.app {w0 w : World} {t r : Nat} {T : Tp} {R : RTp} (h : TR w0 w t r T R) (seg : Int) {S : Nat → Prop} {A : Option Addr} {m c : Nat} {ls : List (List UInt8)} (hl : ls.flatten.length ≤ 1073741824) (V : World) (hV : Below w.heap.size w V) (hS : ∀ k, S k → w.heap.size ≤ k ∧ k < V.heap.size)
    (hP : ∀ w', V.heap.size ≤ w'.heap.size → (∀ k, w.heap.size ≤ k → k < V.heap.size → w'.heap[k]? = V.heap[k]?) → PIs w' (.slice A m c) ls) : Calls Tryz.prog 22 #[.pointer (some ⟨t, 0, none⟩), .int .i64 seg, .slice A m c] V (AStep w0 w S t r R (doP (plT T) 0 seg 0 ls.flatten).2 (doP (plT T) 0 seg 0 ls.flatten).1 V) :=
  (tappend (h.keep hV).globW (h.tape.below hV) h.far seg 0 hl (fun w' ht => hP w' ht.size (fun k hk hlt => ht.block k hlt (fun hT => by have := h.tape.lt k hT; omega)))).mono fun e w' k => ⟨k.1, (h.keep hV).tdoG k.2 (fun i hi => ⟨(hS i hi).2, fun hT => by have := h.tape.lt i hT; have := (hS i hi).1; omega, fun hR => by have := h.ref.lt i hR; have := (hS i hi).1; omega, by have := h.below.size; have := (hS i hi).1; omega⟩), fun i hi hlt => by
    obtain ⟨T', _, _, h3, _⟩ := k.2
    exact h3.block i hlt (fun hk => by have := h.tape.lt i hk; omega), by
    obtain ⟨T', _, _, h3, _⟩ := k.2
    exact h3.size⟩

end Go.Proofs.YtkdcknkgfgkoaaaGreatDoor
