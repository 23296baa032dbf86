/- Five arguments; a slice of texts read out of an argument; numbers' bounds. -/
import Derived.Test.YtakdhhapckcnaaaDoorPrfK
import Derived.Test.YtakdhhapckcnaaaDoorOctT
import Derived.Deep.Strs
set_option linter.unusedSimpArgs false
set_option linter.unusedVariables false
set_option linter.unnecessarySimpa false
namespace Go.Proofs.YtakdhhapckcnaaaDoor
open Go.ChangeShapes Go.WideShapes Go.RowKit Go.Deep

section
variable {H : Type} {enc : TypeId × Value → H} {P : Program} {w : World} {base : Nat} {spare : Nat → Bool} {held : Bool}
theorem trodAll_five {t t' t'' t3 t4 : TypeId} {args : Array Value} {ds : List (DataW H)} {ps : List MemPlace} (h : DataW.TrodAll enc P w base spare held [t, t', t'', t3, t4] args.toList ds ps) :
    ∃ v v' v'' v3 v4 d d' d'' d3 d4 p p' p'' p3 p4, args = #[v, v', v'', v3, v4] ∧ ds = [d, d', d'', d3, d4] ∧ ps = p ++ p' ++ p'' ++ p3 ++ p4 ∧ DataW.Trod enc P w base spare held t v d p ∧ DataW.Trod enc P w base spare held t' v' d' p' ∧ DataW.Trod enc P w base spare held t'' v'' d'' p'' ∧ DataW.Trod enc P w base spare held t3 v3 d3 p3 ∧ DataW.Trod enc P w base spare held t4 v4 d4 p4 := by
  obtain ⟨v, vs, d, ds', p, q, hargs, rfl, rfl, hd, hrest⟩ := trodAll_cons h
  obtain ⟨v', vs', d', ds'', p', q', rfl, rfl, rfl, hd', hrest'⟩ := trodAll_cons hrest
  obtain ⟨v'', vs'', d'', ds''', p'', q'', rfl, rfl, rfl, hd'', hrest''⟩ := trodAll_cons hrest'
  obtain ⟨v3, vs3, d3, ds3, p3, q3, rfl, rfl, rfl, hd3, hrest3⟩ := trodAll_cons hrest''
  obtain ⟨v4, vs4, d4, ds4, p4, q4, rfl, rfl, rfl, hd4, hrest4⟩ := trodAll_cons hrest3
  obtain ⟨rfl, rfl, rfl⟩ := trodAll_nil hrest4
  exact ⟨v, v', v'', v3, v4, d, d', d'', d3, d4, p, p', p'', p3, p4, by cases args; simp_all, rfl, by simp, hd, hd', hd'', hd3, hd4⟩
theorem trodAll_mk5 {t t' t'' t3 t4 : TypeId} {v v' v'' v3 v4 : Value} {d d' d'' d3 d4 : DataW H} {p p' p'' p3 p4 : List MemPlace} (h : DataW.Trod enc P w base spare held t v d p) (h' : DataW.Trod enc P w base spare held t' v' d' p')
    (h'' : DataW.Trod enc P w base spare held t'' v'' d'' p'') (h3 : DataW.Trod enc P w base spare held t3 v3 d3 p3) (h4 : DataW.Trod enc P w base spare held t4 v4 d4 p4) : DataW.TrodAll enc P w base spare held [t, t', t'', t3, t4] [v, v', v'', v3, v4] [d, d', d'', d3, d4] (p ++ (p' ++ (p'' ++ (p3 ++ p4)))) :=
  ⟨p, p' ++ (p'' ++ (p3 ++ p4)), h, trodAll_mk4 h' h'' h3 h4, rfl⟩
end
section
variable {H : Type} {enc : TypeId × Value → H}
theorem txt_list {W : World} {a : Addr} {n : Nat} (h : ∀ i, i < n → ∃ s : ByteArray, W.cell? (a.add i) = some (.string s) ∧ s.size ≤ maxLen) : ∃ ls : List ByteArray, ls.length = n ∧ (∀ i s, ls[i]? = some s → W.cell? (a.add i) = some (.string s)) ∧ ∀ s ∈ ls, s.size ≤ maxLen := by
  induction n with
  | zero => exact ⟨[], rfl, fun i s hx => by simp at hx, fun s hs => by simp at hs⟩
  | succ n ih =>
    obtain ⟨ls, hl, hp, hz⟩ := ih (fun i hi => h i (by omega))
    obtain ⟨x, hx, hxz⟩ := h n (by omega)
    refine ⟨ls ++ [x], by simp [hl], fun i y hy => ?_, fun s hs => ?_⟩
    · by_cases hi : i < ls.length
      · rw [List.getElem?_append_left hi] at hy; exact hp i y hy
      · rw [List.getElem?_append_right (by omega)] at hy
        have h0 : i - ls.length = 0 := by
          rcases Nat.eq_zero_or_pos (i - ls.length) with h | h
          · exact h
          · rw [List.getElem?_eq_none (by simp; omega)] at hy; cases hy
        rw [h0] at hy
        have : x = y := by simpa using hy
        subst this
        have : i = n := by omega
        subst this
        exact hx
    · rcases List.mem_append.1 hs with hs | hs
      · exact hz s hs
      · simp at hs; subst hs; exact hxz
theorem cells36 : Tryd.prog.cellsOf 9 = 1 := by kernel_rfl
set_option maxRecDepth 100000 in
theorem texts_open {W : World} {v : Value} {d : DataW H} {ps : List MemPlace} {r : Reach} {b0 : Nat} (hv : Value.okWide Tryd.prog W r b0 36 v)
    (h : DataW.Trod enc Tryd.prog W 0 (fun _ => true) true 36 v d ps) (hlt : ∀ x ∈ ps, x.block < W.heap.size) : ∃ ls, TxtIn W v ls := by
  obtain ⟨A, len, cap, rfl⟩ := okWide_slice Tryd.underlying36 hv
  obtain ⟨fuel, hf⟩ := h
  rcases open_strs Tryd.underlying36 Tryd.underlying9 cells36 hf with ⟨h0, _⟩ | ⟨a, len', cap', m, Sx, hcs, hb, hl, hm, hmm, hx, hi⟩
  · simp [Value.cells] at h0
    obtain ⟨rfl, rfl, rfl⟩ := h0
    exact ⟨[], .inl ⟨_, _, rfl, rfl⟩, fun s hs => by simp at hs⟩
  · simp [Value.cells] at hcs
    obtain ⟨rfl, rfl, rfl⟩ := hcs
    simp at hmm
    subst hmm
    by_cases hz : len = 0
    · subst hz
      exact ⟨[], .inl ⟨_, _, rfl, rfl⟩, fun s hs => by simp at hs⟩
    · have hbl : a.block < W.heap.size := by
        obtain ⟨x, hx1, hx2⟩ := row_mem (a := a) (n := m) (by omega)
        rw [← hx2]
        have : ps = MemPlace.row a m := congrArg Prod.snd hx
        exact hlt x (by rw [this]; exact hx1)
      obtain ⟨ls, hlen, hc, hs⟩ := txt_list (W := W) (a := a) (n := len) (fun i hil => ⟨Sx i, (hi i (by omega)).1, (hi i (by omega)).2⟩)
      subst hlen
      exact ⟨ls, .inr (.inr ⟨a, m, rfl, hl, hm, hbl, hc⟩), fun s hsm => by have := hs s hsm; unfold maxLen at this; omega⟩
end
theorem bnd_u64 {n : Int} (h : (Lit.int .u64 n).wf = true) : ∃ k : Nat, n = (k : Int) ∧ k ≤ 18446744073709551615 := by
  simp [Lit.wf] at h
  have e1 : IntKind.u64.min = 0 := by decide
  have e2 : IntKind.u64.max = 18446744073709551615 := by decide
  rw [e1, e2] at h
  exact ⟨n.toNat, by omega, by omega⟩
theorem bnd_i64 {n : Int} (h : (Lit.int .i64 n).wf = true) : -9223372036854775808 ≤ n ∧ n ≤ 9223372036854775807 := by
  simp [Lit.wf] at h
  have e1 : IntKind.i64.min = -9223372036854775808 := by decide
  rw [e1] at h
  exact h
end Go.Proofs.YtakdhhapckcnaaaDoor
