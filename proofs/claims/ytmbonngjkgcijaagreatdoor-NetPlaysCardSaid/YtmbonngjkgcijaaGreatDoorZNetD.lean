/- The net: put. The net: a packet more; send. Messages in a row that was given. -/
import Derived.Test.YtmbonngjkgcijaaGreatDoorZPosA
import Derived.Test.YtmbonngjkgcijaaGreatDoorZMecE
import Derived.Test.YtmbonngjkgcijaaGreatDoorZMegA
set_option linter.unusedSimpArgs false
set_option linter.unusedVariables false
set_option linter.unnecessarySimpa false
namespace Go.Proofs.YtmbonngjkgcijaaGreatDoor
open Go.RowKit Go.Shelf

theorem infoP1 : (Tryz.prog.info? 120).map (fun i => (i.zero, i.size, i.bytes)) = some (some (.pointer none), 1, 8) := by kernel_rfl
/-- Roles with one more row. -/
def roRow (ro : Nat → Nat) (g : Nat) (k : Nat) : Nat := if k = g then 3 else ro k
/-- What a call does to the net's blocks. -/
def Step (w w' : World) (ro ro' : Nat → Nat) : Prop := Touch (fun k => ro k ≠ 0) w w' ∧ ∀ k, k < w.heap.size → ro' k = ro k
theorem Step.refl (w : World) (ro : Nat → Nat) : Step w w ro ro := ⟨Touch.refl _ _, fun _ _ => rfl⟩
theorem Step.of_below {w w' : World} (ro : Nat → Nat) (h : Below w.heap.size w w') : Step w w' ro ro := ⟨.of_below h, fun _ _ => rfl⟩
theorem Step.trans {a b c : World} {r s t : Nat → Nat} (h : Step a b r s) (k : Step b c s t) : Step a c r t :=
  ⟨h.1.trans k.1 (fun i hi hs => by rw [← h.2 i hi]; exact hs), fun i hi => by rw [k.2 i (Nat.lt_of_lt_of_le hi h.1.size), h.2 i hi]⟩
theorem Step.after {a b c : World} {r s : Nat → Nat} (h : Step a b r s) (k : Below b.heap.size b c) : Step a c r s := h.trans (.of_below s k)
theorem Step.ahead {a b c : World} {r s : Nat → Nat} (h : Below a.heap.size a b) (k : Step b c r s) : Step a c r s := (Step.of_below r h).trans k
theorem ins_get {α : Type} {l : List α} {i j : Nat} {x : α} (hi : i ≤ l.length) : (l.insertIdx i x)[j]? = if j < i then l[j]? else if j = i then some x else l[j - 1]? := by
  rw [List.getElem?_insertIdx]
  by_cases h1 : j < i
  · rw [if_pos h1, if_pos h1]
  · rw [if_neg h1, if_neg h1]
    by_cases h2 : j = i
    · rw [if_pos h2, if_pos h2, if_pos (by omega)]
    · rw [if_neg h2, if_neg h2]
section
variable {w : World} {b : Nat} {most : Int} {v : Value} {L : List Pk} {mp : Nat} {C : List MapEntry} {c : Nat} {ro : Nat → Nat}
/-- A packet beside the net's. -/
structure Beside (w : World) (L : List Pk) (ro : Nat → Nat) (x : Pk) : Prop where
  pk : w.heap[x.pb]? = some (.cells x.cells 125 (0, 0))
  by_ : OwnC w 0 x.g x.cap x.bs
  few : x.bs ≠ [] ∧ x.bs.length ≤ 20000
  rp : ro x.pb = 4 ∧ ro x.g = 5
  off : ∀ e ∈ L, e.pb ≠ x.pb ∧ e.g ≠ x.g
/-- The net with another row, and one more packet. -/
theorem NetAt.more (h : NetAt w b most v L mp C c ro) {x : Pk} (hx : Beside w L ro x) {W : World} {v' : Value} {i : Nat} {ro' : Nat → Nat} {S : Nat → Prop} (hi : i ≤ L.length) (ht : Touch S w W) (hS : ∀ k, k < w.heap.size → S k → ro k = 1 ∨ ro k = 3) (hh : W.heap[b]? = some (.cells #[.int .i64 most, v', .map (some mp)] 100 (0, 0)))
    (hr : RowIs W 1 v' (L.insertIdx i x).length (ptrs (L.insertIdx i x))) (hl : L.length + 1 ≤ 1024) (hro : ∀ k, ro k ≠ 0 → ro' k = ro k) (hro2 : ∀ k, ro' k ≠ 0 → k < W.heap.size) (hv : ∀ k, v'.ownBlock = some k → ro' k = 3) : NetAt W b most v' (L.insertIdx i x) mp C c ro' := by
  have hmem : ∀ e ∈ L.insertIdx i x, e ∈ L ∨ e = x := fun e he => by
    obtain ⟨j, hj⟩ := List.getElem?_of_mem he
    rw [ins_get hi] at hj
    split at hj
    · exact .inl (List.mem_of_getElem? hj)
    · split at hj
      · exact .inr (Option.some.inj hj).symm
      · exact .inl (List.mem_of_getElem? hj)
  have hone : ∀ (p q : Nat) (y z : Pk), (L.insertIdx i x)[p]? = some y → (L.insertIdx i x)[q]? = some z → (y.pb = z.pb ∨ y.g = z.g) → p = q := by
    intro p q y z hy hz e
    rw [ins_get hi] at hy hz
    have hoff : ∀ {y : Pk} {j : Nat}, L[j]? = some y → (y.pb = x.pb ∨ y.g = x.g) → False := fun hy e => by
      have h1 := hx.off _ (List.mem_of_getElem? hy)
      rcases e with e | e
      · exact h1.1 e
      · exact h1.2 e
    split at hy
    · split at hz
      · exact h.one p q y z hy hz e
      · split at hz
        · cases hz; exact (hoff hy e).elim
        · have := h.one p (q - 1) y z hy hz e; omega
    · split at hy
      · cases hy
        split at hz
        · exact (hoff hz (e.imp Eq.symm Eq.symm)).elim
        · split at hz
          · omega
          · exact (hoff hz (e.imp Eq.symm Eq.symm)).elim
      · split at hz
        · have := h.one (p - 1) q y z hy hz e; omega
        · split at hz
          · cases hz; exact (hoff hy e).elim
          · have := h.one (p - 1) (q - 1) y z hy hz e; omega
  have hkp : ∀ {k r : Nat}, ro k = r → (r = 2 ∨ r = 4 ∨ r = 5) → k < w.heap.size → W.heap[k]? = w.heap[k]? := fun {k r} hk hr hlt => ht.block k hlt (fun q => by have := hS k hlt q; omega)
  have hkr : ∀ {k r : Nat}, ro k = r → r ≠ 0 → ro' k = r := fun {k r} hk hr => by rw [hro k (by rw [hk]; exact hr)]; exact hk
  refine ⟨hh, hr, fun e he => ?_, fun e he => ?_, ⟨?_, fun e he => ?_⟩, ?_, hkr h.rb (by decide), hkr h.rm (by decide), hv, fun e he => ?_, hro2, fun p q y z hy hz e => hone p q y z hy hz (.inl e), fun p q y z hy hz e => hone p q y z hy hz (.inr e)⟩
  · rcases hmem e he with h1 | rfl
    · exact (hkp (h.rp e h1).1 (by decide) (heap_lt (h.pk e h1))).trans (h.pk e h1)
    · exact (hkp hx.rp.1 (by decide) (heap_lt hx.pk)).trans hx.pk
  · rcases hmem e he with h1 | rfl
    · exact (h.by_ e h1).keep ht.size (hkp (h.rp e h1).2 (by decide) (h.by_ e h1).lt)
    · exact hx.by_.keep ht.size (hkp hx.rp.2 (by decide) hx.by_.lt)
  · rw [List.length_insertIdx, if_pos hi]; exact hl
  · rcases hmem e he with h1 | rfl
    · exact h.few.2 e h1
    · exact hx.few
  · exact h.map.keep (hkp h.rm (by decide) h.map.lt)
  · rcases hmem e he with h1 | rfl
    · exact ⟨hkr (h.rp e h1).1 (by decide), hkr (h.rp e h1).2 (by decide)⟩
    · exact ⟨hkr hx.rp.1 (by decide), hkr hx.rp.2 (by decide)⟩
set_option maxRecDepth 100000 in
set_option maxHeartbeats 4000000 in
theorem nput_any (h : NetAt w b most v L mp C c ro) {x : Pk} (hx : Beside w L ro x) {i : Nat} (hi : i ≤ L.length) (hl : L.length + 1 ≤ 1024) : Calls Tryz.prog 75 #[.pointer (some ⟨b, 0, none⟩), .int .i64 i, x.ptr] w fun e w' => e = .returned (.tuple #[]) ∧ ∃ v' ro', NetAt w' b most v' (L.insertIdx i x) mp C c ro' ∧ Step w w' ro ro' := by
  obtain ⟨n, hn⟩ : ∃ n, L.length = n := ⟨_, rfl⟩
  have hpl : (ptrs L).length = n := by rw [List.length_map]; exact hn
  have hb0 := below_new (w := w) (.cells #[.pointer none] 120)
  have hat := alloc_at w (.cells #[.pointer none] 120)
  have hro0 := h.row
  rw [hn] at hro0
  obtain ⟨A0, c0, hv0, _⟩ := id hro0.form
  obtain ⟨v1, W1, hr1, hrow1, hg1, hblk1⟩ := run_append_row (w.alloc (.cells #[.pointer none] 120)) 98 120 98 98 Tryz.underlying98 infoP1 rfl (by omega) (by omega) v n 1 (ptrs L) [.pointer none] (.slice (some ⟨w.heap.size, 0, none⟩) 1 1) (hro0.below hb0)
    (Src.ofSlice _ Tryz.underlying98 ⟨w.heap.size, 0, none⟩ 1 1 [.pointer none] rfl (fun k u hu => by
      rw [add0, cell_of hat k]
      simpa using hu) (by simp [Value.oneCell'])) (by omega)
  have hcb := h.cell1
  have hc0 : (w.alloc (.cells #[.pointer none] 120)).cell? ⟨b, 1, none⟩ = some v := (h.below hb0).cell1
  have hf0 : w.frozen? ⟨b, 1, none⟩ = false := free0 h.head 1
  have hvb : v.ownBlock ≠ some b := fun e => by have h1 := h.rr b e; have h2 := h.rb; rw [h2] at h1; cases h1
  have hhd1 : W1.heap[b]? = some (.cells #[.int .i64 most, v, .map (some mp)] 100 (0, 0)) := (hg1.block b (by rw [asz]; exact Nat.lt_succ_of_lt (heap_lt h.head)) (fun e => hvb e.symm)).trans ((hb0.block b (heap_lt h.head)).trans h.head)
  have hf1 : W1.frozen? ⟨b, 1, none⟩ = false := free0 hhd1 1
  have hc1 : W1.cell? ⟨b, 1, none⟩ = some v := cell_of hhd1 1
  rcases hrow1 with ⟨rfl, hz, _⟩ | ⟨g, cap, rfl, hl1, hcap, hrow1⟩
  · omega
  have hmx := hrow1.max
  unfold maxLen at hmx
  have hgw : v.ownBlock = some g ∨ w.heap.size + 1 = g := by
    rcases hblk1 with e | e
    · exact .inl e.symm
    · exact .inr (by have e2 : g = (w.alloc (.cells #[.pointer none] 120)).heap.size := Option.some.inj e; rw [asz] at e2; exact e2.symm)
  have hgb : g ≠ b := fun e => by
    rcases hgw with h1 | h1
    · exact hvb (by rw [h1, e])
    · have := heap_lt h.head; omega
  have hT1 : Touch (fun k => v.ownBlock = some k) w W1 := ((Touch.refl _ _).alloc _).grown hg1 (fun k e _ => e)
  obtain ⟨W2, hW2⟩ : ∃ W, W = W1.setCell ⟨b, 1, none⟩ (.slice (some ⟨g, 0, none⟩) (n + 1) cap) := ⟨_, rfl⟩
  have hT2 : Touch (fun k => v.ownBlock = some k ∨ k = b) w W2 := by rw [hW2]; exact (hT1.mono (fun _ _ e => .inl e)).setCell ⟨b, 1, none⟩ (fun _ => .inr rfl) _
  have hh2 : W2.heap[b]? = some (.cells #[.int .i64 most, .slice (some ⟨g, 0, none⟩) (n + 1) cap, .map (some mp)] 100 (0, 0)) := by rw [hW2]; exact set_at hhd1 1 _
  have hrow2 : RowC W2 1 g cap (ptrs L ++ [.pointer none]) := by rw [hW2]; exact hrow1.keep (by simp [World.setCell]) (Below.heap_setCell _ _ _ _ hgb)
  have hrd : RowC W2.drew 1 g cap (ptrs L ++ [.pointer none]) := hrow2.keep (Nat.le_refl _) rfl
  have hcp : ∀ (ty : TypeId) (A2 : Option Addr), A2 = (if cap = i + 1 then some ⟨g, 0, none⟩ else some ⟨g, i + 1, none⟩) → (Builtin.copy_ #[98, 98] ty #[.slice A2 (n - i) (cap - (i + 1)), .slice (some ⟨g, i, none⟩) (n + 1 - i) (cap - i)]).run Tryz.prog W2.drew = .ok (.int .i64 ((n - i : Nat) : Int)) (W2.drew.setCells g (i + 1) ((ptrs L).drop i)) := by
    rintro ty A2 rfl
    have hdl : ((ptrs L).drop i).length = (n - i) * 1 := by rw [List.length_drop, hpl]; omega
    have hmin : Nat.min (n + 1 - i) (n - i) = n - i := Nat.min_eq_right (by omega)
    have hone : ∀ u ∈ (ptrs L).drop i, u.oneCell' = true := fun u hu => by
      obtain ⟨e, _, rfl⟩ := List.mem_map.1 (List.mem_of_mem_drop hu)
      rfl
    have hsrc : ∀ j u, ((ptrs L).drop i)[j]? = some u → W2.drew.cell? ⟨g, i + j, none⟩ = some u := fun j u hj => by
      rw [List.getElem?_drop] at hj
      exact hrd.holds _ u (by rw [List.getElem?_append_left (List.getElem?_eq_some_iff.1 hj).1]; exact hj)
    by_cases hc1 : cap = i + 1
    · have hni : n = i := by omega
      rw [if_pos hc1]
      have e0 : (ptrs L).drop i = [] := List.eq_nil_of_length_eq_zero (by omega)
      have := ncopy_off (P := Tryz.prog) W2.drew 98 98 ty 120 1 g 0 (n - i) (cap - (i + 1)) g i (n + 1 - i) (cap - i) (n - i) ((ptrs L).drop i) Tryz.underlying98 info1P hmin hdl hsrc (fun j hj => by omega) (fun j hj => by omega) hone
      rw [this, e0]
      rfl
    · rw [if_neg hc1]
      exact ncopy_off W2.drew 98 98 ty 120 1 g (i + 1) (n - i) (cap - (i + 1)) g i (n + 1 - i) (cap - i) (n - i) _ Tryz.underlying98 info1P hmin hdl hsrc (fun j hj => (hrd.there (i + 1 + j) (by omega)).1) (fun j hj => (hrd.there (i + 1 + j) (by omega)).2) hone
  obtain ⟨W3, hW3⟩ : ∃ W, W = W2.drew.setCells g (i + 1) ((ptrs L).drop i) := ⟨_, rfl⟩
  have hT3 : Touch (fun k => k = g) W2 W3 := by
    have := setCells_touch (S := fun k => k = g) (a := W2.drew) g (fun _ => rfl) ((ptrs L).drop i) (i + 1) W2.drew (Touch.refl _ _)
    rw [hW3]
    exact (Touch.refl (fun k => k = g) W2).drew.trans this (fun _ _ e => e)
  have hil : (L.insertIdx i x).length = n + 1 := by rw [List.length_insertIdx, if_pos hi, hn]
  obtain ⟨z, hz⟩ : ∃ z, (ptrs L ++ [.pointer none])[i]? = some z := ⟨_, List.getElem?_eq_getElem (by rw [List.length_append, hpl, List.length_singleton]; omega)⟩
  have e1 : ((ptrs L).take i).length = i := by rw [List.length_take, hpl]; omega
  have hmid : RowC W3 1 g cap ((ptrs L).take i ++ z :: (ptrs L).drop i) := by
    rw [hW3]
    refine hrd.setRange (by rw [List.length_drop, hpl]; omega) (by rw [List.length_append, List.length_cons, e1, List.length_drop, hpl]; omega) (fun j u hj hu => ?_) (fun j u hj hu => ?_)
    · rw [List.getElem?_append_right (by rw [e1]; omega), e1, show i + 1 + j - i = j + 1 from by omega, List.getElem?_cons_succ] at hu
      exact hu
    · rw [List.length_drop, hpl] at hj
      by_cases hji : j < i
      · rw [List.getElem?_append_left (by rw [e1]; exact hji), List.getElem?_take, if_pos hji] at hu
        rw [List.getElem?_append_left (by rw [hpl]; omega)]
        exact hu
      · by_cases hij : j = i
        · subst hij
          rw [List.getElem?_append_right (by rw [e1]; omega), e1, show j - j = 0 from by omega] at hu
          cases hu
          exact hz
        · rw [List.getElem?_append_right (by rw [e1]; omega), e1] at hu
          have := (List.getElem?_eq_some_iff.1 hu).1
          rw [List.length_cons, List.length_drop, hpl] at this
          omega
  have hset : ((ptrs L).take i ++ z :: (ptrs L).drop i).set i x.ptr = ptrs (L.insertIdx i x) := by
    apply List.ext_getElem?
    intro j
    rw [List.getElem?_set, List.length_append, List.length_cons, e1, List.length_drop, hpl, List.getElem?_map, ins_get hi]
    by_cases h1 : j < i
    · rw [if_neg (by omega), if_pos h1, List.getElem?_append_left (by rw [e1]; exact h1), List.getElem?_take, if_pos h1, List.getElem?_map]
    · by_cases h2 : i = j
      · subst h2
        rw [if_pos rfl, if_pos (by omega), if_neg (by omega), if_pos rfl]
        rfl
      · rw [if_neg h2, if_neg h1, if_neg (fun e => h2 e.symm), List.getElem?_append_right (by rw [e1]; omega), e1, show j - i = (j - i - 1) + 1 from by omega, List.getElem?_cons_succ, List.getElem?_drop, List.getElem?_map, show i + (j - i - 1) = j - 1 from by omega]
  have hcl : ((ptrs L).take i ++ z :: (ptrs L).drop i).length = n + 1 := by rw [List.length_append, List.length_cons, e1, List.length_drop, hpl]; omega
  obtain ⟨u0, hu0⟩ := Option.isSome_iff_exists.1 (hmid.there i (by omega)).1
  have hf3 := (hmid.there i (by omega)).2
  have hT23 : Touch (fun k => v.ownBlock = some k ∨ k = b ∨ k = g) w W3 := (hT2.mono (fun k _ e => by rcases e with e | e; exact .inl e; exact .inr (.inl e))).trans hT3 (fun k _ e => .inr (.inr e))
  have hh3 := (hT3.block b (heap_lt hh2) (fun e => hgb e.symm)).trans hh2
  obtain ⟨W4, hW4⟩ : ∃ W, W = W3.setCell ⟨g, i, none⟩ x.ptr := ⟨_, rfl⟩
  have hT4 : Touch (fun k => v.ownBlock = some k ∨ k = b ∨ k = g) w W4 := by rw [hW4]; exact hT23.setCell ⟨g, i, none⟩ (fun _ => .inr (.inr rfl)) _
  have hrow4 : RowC W4 1 g cap (ptrs (L.insertIdx i x)) := by rw [hW4, ← hset]; exact hmid.setIn (by rw [hcl]; omega) _
  have hh4 : W4.heap[b]? = some (.cells #[.int .i64 most, .slice (some ⟨g, 0, none⟩) (n + 1) cap, .map (some mp)] 100 (0, 0)) := by rw [hW4]; exact (Below.heap_setCell W3 ⟨g, i, none⟩ _ b (fun e => hgb e.symm)).trans hh3
  have hbw := heap_lt h.head
  have hgs : ∀ k, k < w.heap.size → k = g → ro k = 3 := fun k hk e => by
    rcases hgw with h1 | h1
    · rw [e]; exact h.rr g h1
    · omega
  have hgr : ∀ k, ro k ≠ 0 → roRow ro g k = ro k := fun k hk => by
    unfold roRow
    split
    · next e => exact (hgs k (h.lt k hk) e).symm
    · rfl
  have hgr2 : ∀ k, k < w.heap.size → roRow ro g k = ro k := fun k hk => by
    unfold roRow
    split
    · next e => exact (hgs k hk e).symm
    · rfl
  have HFIN : Hid (NetAt W4 b most (.slice (some ⟨g, 0, none⟩) (n + 1) cap) (L.insertIdx i x) mp C c (roRow ro g) ∧ Step w W4 ro (roRow ro g)) := Lib.hid ⟨h.more hx hi hT4 (fun k hk e => by
      rcases e with e | e | e
      · exact .inr (h.rr k e)
      · exact .inl (by rw [e]; exact h.rb)
      · exact .inr (hgs k hk e)) hh4 (.inr ⟨g, cap, by rw [hil], by rw [List.length_map, hil]; omega, by omega, hrow4⟩) (by omega) hgr (fun k hk => by
      unfold roRow at hk
      split at hk
      · next e => rw [e]; exact hrow4.lt
      · exact Nat.lt_of_lt_of_le (h.lt k hk) hT4.size) (fun k hk => by cases hk; unfold roRow; rw [if_pos rfl]), hT4.mono (fun k hk e => by
      rcases e with e | e | e
      · rw [h.rr k e]; decide
      · rw [e, h.rb]; decide
      · rw [hgs k hk e]; decide), hgr2⟩
  have c2 : W2.cell? ⟨b, 1, none⟩ = some (.slice (some ⟨g, 0, none⟩) (n + 1) cap) := cell_of hh2 1
  have c3 : W3.cell? ⟨b, 1, none⟩ = some (.slice (some ⟨g, 0, none⟩) (n + 1) cap) := cell_of hh3 1
  have HC : Hid (∀ W : World, W.heap[b]? = W2.heap[b]? → W.cell? ⟨b, 1, none⟩ = some (.slice (some ⟨g, 0, none⟩) (n + 1) cap)) := Lib.hid (fun W hW => (World.cell?_of_block (a := ⟨b, 1, none⟩) hW).trans c2)
  have hwr : IntKind.i64.wrap ((i : Int) + 1) = (i : Int) + 1 := IntWalk.i64_in _ (by omega)
  have hi1 : ¬ cap = i := by omega
  have hi2 : ¬ ((n : Int) + 1 < (i : Int)) := by omega
  have hi3 : (0 : Int) ≤ (i : Int) + 1 := by omega
  have hi4 : (i : Int) ≤ (n : Int) := by omega
  have hi5 : (i : Int) < (n : Int) + 1 := by omega
  rw [← hW3] at hcp
  have HCP : Hid _ := Lib.hid hcp
  have HW2 := Lib.hid hW2
  have HW4 := Lib.hid hW4
  unfold Pk.ptr
  have hn0 : n + 1 ≤ cap := by omega
  have HC2 := Lib.hid c3
  clear hrd hrow1 hrow2 hmid hset hcl hT1 hT2 hT3 hT23 hT4 hrow4 hh2 hh3 hh4 hcp hpl h hi hx hil hn hl hl1 hcap hz e1 hgs hgr hgr2 hgw hblk1 hg1 hb0 hat hro0 hhd1 hf0 hv0 hbw
  go_enter Tryz.func75, Tryz.ntmps75
  go_wp2_with (at_builtin; refine wpList_app_run rfl _ _ _ _ rfl rfl rfl hr1 ?_)
  rw [← hW2]
  refine wp_only ?_
  refine wp_region_held_drew (S := fun W => W.cell? ⟨b, 1, none⟩ = some (.slice (some ⟨g, 0, none⟩) (n + 1) cap)) (by kernel_rfl) (HC.out _ rfl) (fun hHeld => ?_)
  refine tkH (i := 0) (oi := { dst := some 15, op := .move (.tmp 0), type := 23, pos := "packet.go:107", after := #[], guard := none }) (v := ?vv1) ?hy1 ?rest1
  case hy1 => (refine Or.inl ⟨by rfl, ?_⟩; intro W hSw; (try dsimp only at hSw); go_simp; (try with_reducible rfl))
  try simp only [Act.put, pzz]
  refine tkH (i := 1) (oi := { dst := some 16, op := .nilCheck (.tmp 15), type := 0, pos := "packet.go:107", after := #[⟨0, .data⟩], guard := none }) (v := ?vv2) ?hy2 ?rest2
  case hy2 => (refine Or.inl ⟨by rfl, ?_⟩; intro W hSw; (try dsimp only at hSw); go_simp; (try with_reducible rfl))
  try simp only [Act.put, pzz]
  refine tkH (i := 2) (oi := { dst := some 17, op := .fieldAddr 100 (.tmp 16) 1, type := 0, pos := "packet.go:107", after := #[⟨1, .data⟩], guard := none }) (v := ?vv3) ?hy3 ?rest3
  case hy3 => (refine Or.inl ⟨by rfl, ?_⟩; intro W hSw; (try dsimp only at hSw); go_simp; (try with_reducible rfl))
  try simp only [Act.put, pzz]
  refine tkH (i := 3) (oi := { dst := some 18, op := .load 98 (.tmp 17), type := 98, pos := "packet.go:107", after := #[⟨2, .data⟩], guard := none }) (v := ?vv4) ?hy4 ?rest4
  case hy4 => (refine Or.inl ⟨by rfl, ?_⟩; intro W hSw; (try dsimp only at hSw); go_simp; (try with_reducible rfl))
  try simp only [Act.put, pzz]
  refine tkH (i := 4) (oi := { dst := some 19, op := .move (.tmp 1), type := 3, pos := "packet.go:107", after := #[], guard := none }) (v := ?vv5) ?hy5 ?rest5
  case hy5 => (refine Or.inl ⟨by rfl, ?_⟩; intro W hSw; (try dsimp only at hSw); go_simp; (try with_reducible rfl))
  try simp only [Act.put, pzz]
  refine tkH (i := 5) (oi := { dst := some 20, op := .binOp .add 3 (.tmp 19) (.const (.int .i64 1)) 3, type := 3, pos := "packet.go:107", after := #[⟨4, .data⟩], guard := none }) (v := ?vv6) ?hy6 ?rest6
  case hy6 => (refine Or.inl ⟨by rfl, ?_⟩; intro W hSw; (try dsimp only at hSw); go_simp; (try with_reducible rfl))
  try simp only [Act.put, pzz]
  refine tkH (i := 6) (oi := { dst := some 21, op := .slice 98 (.tmp 18) (some (.tmp 20)) none none, type := 98, pos := "packet.go:107", after := #[⟨3, .data⟩, ⟨5, .data⟩], guard := none }) (v := ?vv7) ?hy7 ?rest7
  case hy7 => (refine Or.inl ⟨by rfl, ?_⟩; intro W hSw; (try dsimp only at hSw); go_simp; (try with_reducible rfl))
  try simp only [Act.put, pzz]
  refine tkH (i := 7) (oi := { dst := some 22, op := .move (.tmp 0), type := 23, pos := "packet.go:107", after := #[], guard := none }) (v := ?vv8) ?hy8 ?rest8
  case hy8 => (refine Or.inl ⟨by rfl, ?_⟩; intro W hSw; (try dsimp only at hSw); go_simp; (try with_reducible rfl))
  try simp only [Act.put, pzz]
  refine tkH (i := 8) (oi := { dst := some 23, op := .nilCheck (.tmp 22), type := 0, pos := "packet.go:107", after := #[⟨7, .data⟩], guard := none }) (v := ?vv9) ?hy9 ?rest9
  case hy9 => (refine Or.inl ⟨by rfl, ?_⟩; intro W hSw; (try dsimp only at hSw); go_simp; (try with_reducible rfl))
  try simp only [Act.put, pzz]
  refine tkH (i := 9) (oi := { dst := some 24, op := .fieldAddr 100 (.tmp 23) 1, type := 0, pos := "packet.go:107", after := #[⟨8, .data⟩], guard := none }) (v := ?vv10) ?hy10 ?rest10
  case hy10 => (refine Or.inl ⟨by rfl, ?_⟩; intro W hSw; (try dsimp only at hSw); go_simp; (try with_reducible rfl))
  try simp only [Act.put, pzz]
  refine tkH (i := 10) (oi := { dst := some 25, op := .load 98 (.tmp 24), type := 98, pos := "packet.go:107", after := #[⟨9, .data⟩], guard := none }) (v := ?vv11) ?hy11 ?rest11
  case hy11 => (refine Or.inl ⟨by rfl, ?_⟩; intro W hSw; (try dsimp only at hSw); go_simp; (try with_reducible rfl))
  try simp only [Act.put, pzz]
  refine tkH (i := 11) (oi := { dst := some 26, op := .move (.tmp 1), type := 3, pos := "packet.go:107", after := #[], guard := none }) (v := ?vv12) ?hy12 ?rest12
  case hy12 => (refine Or.inl ⟨by rfl, ?_⟩; intro W hSw; (try dsimp only at hSw); go_simp; (try with_reducible rfl))
  try simp only [Act.put, pzz]
  refine tkH (i := 12) (oi := { dst := some 27, op := .slice 98 (.tmp 25) (some (.tmp 26)) none none, type := 98, pos := "packet.go:107", after := #[⟨10, .data⟩, ⟨11, .data⟩], guard := none }) (v := ?vv13) ?hy13 ?rest13
  case hy13 => (refine Or.inl ⟨by rfl, ?_⟩; intro W hSw; (try dsimp only at hSw); go_simp; (try with_reducible rfl))
  try simp only [Act.put, pzz]
  refine wpAnyH_ready (rs := [13]) (by kernel_rfl) (by simp) ?_
  refine AllReadyH.cons (o := { dst := some 28, op := .call { callee := .builtin .copy, args := #[.tmp 21, .tmp 27], argTypes := #[98, 98] }, type := 3, pos := "packet.go:107", after := #[⟨6, .data⟩, ⟨12, .data⟩], guard := none }) rfl (fun K hK => ?step14) ?more14
  case more14 => exact AllReadyH.nil
  (refine nstep_copy_run (HCP.out _ _ rfl) rfl (.tmp 21) (.tmp 27) rfl rfl rfl ?_)
  refine hK.out _ _ ?hS14 (fun hHeld => ?rr14)
  case hS14 => (exact HC2.out)
  clear hK K
  try simp only [Act.put, pzz]
  refine wpAnyH_done (by kernel_rfl) ?_ _
  clear hHeld
  dsimp only [onlyN]
  clear hW2 hW3 hW4 hc1 hc0 hcb hr1
  go_wp2_with fail
  · go_end0
    have hci : cap = i + 1 := by assumption
    have H := HFIN.out
    rw [HW4.out, hci] at H
    exact ⟨rfl, _, _, H.1, H.2⟩
  · go_end0
    have H := HFIN.out
    rw [HW4.out] at H
    exact ⟨rfl, _, _, H.1, H.2⟩
end
end Go.Proofs.YtmbonngjkgcijaaGreatDoor

namespace Go.Proofs.YtmbonngjkgcijaaGreatDoor
open Go.RowKit Go.Shelf
section
variable {w : World} {b : Nat} {most : Int} {v : Value} {L : List Pk} {mp : Nat} {C : List MapEntry} {c : Nat} {ro : Nat → Nat}
/-- The roles with a packet beside the net's. -/
def roPk (ro : Nat → Nat) (pb g : Nat) (k : Nat) : Nat := if k = pb then 4 else if k = g then 5 else ro k
theorem NetAt.roUp (h : NetAt w b most v L mp C c ro) {ro' : Nat → Nat} (h1 : ∀ k, ro k ≠ 0 → ro' k = ro k) (h2 : ∀ k, ro' k ≠ 0 → k < w.heap.size) : NetAt w b most v L mp C c ro' :=
  h.reRow (S := fun _ => False) (Touch.refl _ _) (fun _ _ e => e.elim) h.head h.row h.few.1 (fun _ e => e) h.one h1 h2 (fun k hk => by rw [h1 k (by rw [h.rr k hk]; decide)]; exact h.rr k hk)
/-- A new packet beside the net's. -/
theorem NetAt.beside (h : NetAt w b most v L mp C c ro) {x : Pk} (hp : w.heap[x.pb]? = some (.cells x.cells 125 (0, 0))) (hb : OwnC w 0 x.g x.cap x.bs) (hn : x.bs ≠ [] ∧ x.bs.length ≤ 20000) (h0 : ro x.pb = 0 ∧ ro x.g = 0) (hd : x.pb ≠ x.g) :
    NetAt w b most v L mp C c (roPk ro x.pb x.g) ∧ Beside w L (roPk ro x.pb x.g) x := by
  refine ⟨h.roUp (fun k hk => ?_) (fun k hk => ?_), hp, hb, hn, ⟨by simp [roPk], by simp [roPk, hd.symm]⟩, fun e he => ⟨fun q => ?_, fun q => ?_⟩⟩
  · unfold roPk
    rw [if_neg (by rintro rfl; exact hk h0.1), if_neg (by rintro rfl; exact hk h0.2)]
  · unfold roPk at hk
    split at hk
    · next e => rw [e]; exact heap_lt hp
    · split at hk
      · next e => rw [e]; exact hb.lt
      · exact h.lt k hk
  · have := (h.rp e he).1; rw [q, h0.1] at this; cases this
  · have := (h.rp e he).2; rw [q, h0.2] at this; cases this
theorem ins_end {α : Type} (l : List α) (x : α) : l.insertIdx l.length x = l ++ [x] := by simp
/-- The row with one packet more. -/
theorem napp (h : NetAt w b most v L mp C c ro) {x : Pk} (hx : Beside w L ro x) (hl : L.length + 1 ≤ 1024) {q : Nat} {T : TypeId} {fr : Nat × Nat} (hq : w.heap[q]? = some (.cells #[x.ptr] T fr)) :
    ∃ v' w1 ro', (Builtin.append_ #[98, 98] 98 #[v, .slice (some ⟨q, 0, none⟩) 1 1]).run Tryz.prog w = .ok v' w1 ∧ w1.cell? ⟨b, 1, none⟩ = some v ∧ w1.frozen? ⟨b, 1, none⟩ = false ∧ NetAt (w1.setCell ⟨b, 1, none⟩ v') b most v' (L ++ [x]) mp C c ro' ∧ Step w (w1.setCell ⟨b, 1, none⟩ v') ro ro' ∧ (∃ A n c, v' = .slice A n c) ∧ Touch (fun k => ro k = 3) w w1 := by
  obtain ⟨n, hn⟩ : ∃ n, L.length = n := ⟨_, rfl⟩
  have hpl : (ptrs L).length = n := by rw [List.length_map]; exact hn
  have hro0 := h.row
  rw [hn] at hro0
  obtain ⟨v1, W1, hr1, hrow1, hg1, hblk1⟩ := run_append_row w 98 120 98 98 Tryz.underlying98 infoP1 rfl (by omega) (by omega) v n 1 (ptrs L) [x.ptr] (.slice (some ⟨q, 0, none⟩) 1 1) hro0
    (Src.ofSlice _ Tryz.underlying98 ⟨q, 0, none⟩ 1 1 [x.ptr] rfl (fun k u hu => by
      rw [add0, cell_of hq k]
      simpa using hu) (by simp [Value.oneCell', Pk.ptr])) (by omega)
  have hvb : v.ownBlock ≠ some b := fun e => by have h1 := h.rr b e; have h2 := h.rb; rw [h2] at h1; cases h1
  have hhd1 : W1.heap[b]? = some (.cells #[.int .i64 most, v, .map (some mp)] 100 (0, 0)) := (hg1.block b (heap_lt h.head) (fun e => hvb e.symm)).trans h.head
  rcases hrow1 with ⟨rfl, hz, _⟩ | ⟨g, cap, rfl, hl1, hcap, hrow1⟩
  · omega
  have hgw : v.ownBlock = some g ∨ w.heap.size = g := by
    rcases hblk1 with e | e
    · exact .inl e.symm
    · exact .inr (Option.some.inj e).symm
  have hgb : g ≠ b := fun e => by
    rcases hgw with h1 | h1
    · exact hvb (by rw [h1, e])
    · have := heap_lt h.head; omega
  have hT1 : Touch (fun k => v.ownBlock = some k) w W1 := (Touch.refl _ _).grown hg1 (fun k e _ => e)
  have hT2 : Touch (fun k => v.ownBlock = some k ∨ k = b) w (W1.setCell ⟨b, 1, none⟩ (.slice (some ⟨g, 0, none⟩) (n + 1) cap)) := (hT1.mono (fun _ _ e => .inl e)).setCell ⟨b, 1, none⟩ (fun _ => .inr rfl) _
  have hh2 := set_at hhd1 1 (.slice (some ⟨g, 0, none⟩) (n + 1) cap)
  have hrow2 : RowC (W1.setCell ⟨b, 1, none⟩ (.slice (some ⟨g, 0, none⟩) (n + 1) cap)) 1 g cap (ptrs L ++ [x.ptr]) := hrow1.keep (by simp [World.setCell]) (Below.heap_setCell _ _ _ _ hgb)
  have hgs : ∀ k, k < w.heap.size → k = g → ro k = 3 := fun k hk e => by
    rcases hgw with h1 | h1
    · rw [e]; exact h.rr g h1
    · omega
  have hgr : ∀ k, k < w.heap.size → roRow ro g k = ro k := fun k hk => by
    unfold roRow
    split
    · next e => exact (hgs k hk e).symm
    · rfl
  have hm := h.more hx (Nat.le_refl L.length) hT2 (v' := .slice (some ⟨g, 0, none⟩) (n + 1) cap) (ro' := roRow ro g) (fun k hk e => by
      rcases e with e | e
      · exact .inr (h.rr k e)
      · exact .inl (by rw [e]; exact h.rb)) hh2 (by
      rw [ins_end, List.length_append, List.length_singleton, hn]
      exact .inr ⟨g, cap, rfl, by simp [hpl], hcap, by rw [show ptrs (L ++ [x]) = ptrs L ++ [x.ptr] from by simp [ptrs]]; exact hrow2⟩) hl (fun k hk => hgr k (h.lt k hk)) (fun k hk => by
      unfold roRow at hk
      split at hk
      · next e => rw [e]; exact hrow2.lt
      · exact Nat.lt_of_lt_of_le (h.lt k hk) hT2.size) (fun k hk => by cases hk; unfold roRow; rw [if_pos rfl])
  rw [ins_end] at hm
  exact ⟨_, W1, roRow ro g, hr1, cell_of hhd1 1, free0 hhd1 1, hm, ⟨hT2.mono (fun k hk e => by
      rcases e with e | e
      · rw [h.rr k e]; decide
      · rw [e, h.rb]; decide), hgr⟩, ⟨_, _, _, rfl⟩, hT1.mono (fun k _ e => h.rr k e)⟩
/-- The site of a message. -/
def siteM (m : MsgV) : Int := max m.fr m.tt
/-- What send leaves. -/
def SendP (w : World) (b : Nat) (most : Int) (L : List Pk) (mp : Nat) (C : List MapEntry) (c : Nat) (ro : Nat → Nat) (m : MsgV) (ok : Bool) (w' : World) : Prop :=
  ∃ v' ro' L', NetAt w' b most v' L' mp C c ro' ∧ Step w w' ro ro' ∧ (ok = true → ∃ x, L' = L ++ [x] ∧ x.p = (encM m, siteM m, 0)) ∧ (ok = false → L' = L)
theorem SendP.none {W : World} (h : NetAt w b most v L mp C c ro) (hb : Below w.heap.size w W) {m : MsgV} : SendP w b most L mp C c ro m false W :=
  ⟨v, ro, L, h.below hb, .of_below ro hb, (fun e => by cases e), fun _ => rfl⟩
set_option maxRecDepth 100000 in
set_option maxHeartbeats 4000000 in
theorem nsend_not (hG : Glob w) (h : NetAt w b most v L mp C c ro) {v0 : Value} {m : MsgV} (hm : MsgIs w v0 m) (ha : mayM m = false) : Calls Tryz.prog 56 #[.pointer (some ⟨b, 0, none⟩), v0] w fun e w' => e = .returned (.tuple #[]) ∧ SendP w b most L mp C c ro m false w' := by
  have HMS := Lib.hid (fun W (hW : Below w.heap.size w W) => Encode_not (hG.below hW) (hm.below hW) ha)
  have HFIN := Lib.hid (fun W (hW : Below w.heap.size w W) => SendP.none (m := m) h hW)
  obtain ⟨tA, tc, oA, oc, rfl, ht, ho, hk⟩ := hm
  obtain ⟨kd, fr, tt, g, nd, tr, lw, co, ti, tl, os⟩ := m
  simp only at HMS ht ho hk ⊢
  have hb0 := below_new (w := w) (.cells #[.int .i64 kd, .int .i64 fr, .int .i64 tt, .int .i64 g, .int .i64 nd, .int .i64 tr, .int .i64 lw, .int .i64 co, .int .i64 ti, .slice tA tl.length tc, .slice oA os.length oc] 50)
  have HB0 := Lib.hid hb0
  have hat := alloc_at w (.cells #[.int .i64 kd, .int .i64 fr, .int .i64 tt, .int .i64 g, .int .i64 nd, .int .i64 tr, .int .i64 lw, .int .i64 co, .int .i64 ti, .slice tA tl.length tc, .slice oA os.length oc] 50)
  have m0 := cell_of hat 0; have m1 := cell_of hat 1; have m2 := cell_of hat 2; have m3 := cell_of hat 3; have m4 := cell_of hat 4; have m5 := cell_of hat 5; have m6 := cell_of hat 6; have m7 := cell_of hat 7; have m8 := cell_of hat 8; have m9 := cell_of hat 9; have m10 := cell_of hat 10
  simp at m0 m1 m2 m3 m4 m5 m6 m7 m8 m9 m10
  clear h hG ha ht ho hk hb0 hat
  go_enter Tryz.func56, Tryz.ntmps56
  go_wp2_with fail
  refine (HMS.out _ HB0.out).mono ?_
  rintro e w1 ⟨rfl, hb1⟩
  have HB1 := Lib.hid (HB0.out.trans (hb1.mono HB0.out.size))
  go_wp2_with fail
  refine bodyPost_ret (results_none rfl _ _ _) rfl ?_
  exact ⟨rfl, HFIN.out _ HB1.out⟩
theorem encM_few {m : MsgV} (hm : mayM m = true) (hi : MsgIn m) : encM m ≠ [] ∧ (encM m).length ≤ 20000 := by
  have h1 := bodyM_le hm hi
  have h2 : (encM m).length = (bodyM m).length + 7 := frameB_len _
  refine ⟨fun e => ?_, ?_⟩
  · rw [e] at h2; simp at h2
  · omega
set_option maxRecDepth 100000 in
set_option maxHeartbeats 4000000 in
theorem nsend_yes (hG : Glob w) (hMv : Mov w) (h : NetAt w b most v L mp C c ro) (hmost : most ≤ 1024) {v0 : Value} {m : MsgV} (hm : MsgIs w v0 m) (ha : mayM m = true) (hin : MsgIn m) (hsr : -9223372036854775808 ≤ siteM m ∧ siteM m ≤ 9223372036854775807) (hno : ∀ e ∈ C, e.key ≠ .int .i64 (siteM m)) :
    Calls Tryz.prog 56 #[.pointer (some ⟨b, 0, none⟩), v0] w fun e w' => e = .returned (.tuple #[]) ∧ SendP w b most L mp C c ro m (decide ((L.length : Int) < most)) w' := by
  have HMS := Lib.hid (fun W (hW : Below w.heap.size w W) (hMv : Mov W) => Encode_yes (hG.below hW) hMv (hm.below hW) ha hin)
  have HMV := Lib.hid (fun W (hW : Below w.heap.size w W) => hMv.below hW)
  have HPA := Lib.hid (fun W (hW : Below w.heap.size w W) => nparted_no (h.below hW) hsr hno)
  have HFU := Lib.hid (fun W (hW : Below w.heap.size w W) => nfull_any (h.below hW))
  have HNO := Lib.hid (fun W (hW : Below w.heap.size w W) => SendP.none (m := m) h hW)
  have HH := Lib.hid h
  have HEN := Lib.hid (encM_few ha hin)
  have HMO := Lib.hid hmost
  obtain ⟨ok, hok⟩ : ∃ ok, decide ((L.length : Int) < most) = ok := ⟨_, rfl⟩
  rw [hok]
  have HOK := Lib.hid hok
  clear hok
  unfold siteM at HPA
  obtain ⟨tA, tc, oA, oc, rfl, ht, ho, hk⟩ := hm
  obtain ⟨kd, fr, tt, g, nd, tr, lw, co, ti, tl, os⟩ := m
  simp only at HMS HPA ht ho hk ⊢
  have hb0 := below_new (w := w) (.cells #[.int .i64 kd, .int .i64 fr, .int .i64 tt, .int .i64 g, .int .i64 nd, .int .i64 tr, .int .i64 lw, .int .i64 co, .int .i64 ti, .slice tA tl.length tc, .slice oA os.length oc] 50)
  have HB0 := Lib.hid hb0
  have HMV0 := Lib.hid (HMV.out _ hb0)
  have hat := alloc_at w (.cells #[.int .i64 kd, .int .i64 fr, .int .i64 tt, .int .i64 g, .int .i64 nd, .int .i64 tr, .int .i64 lw, .int .i64 co, .int .i64 ti, .slice tA tl.length tc, .slice oA os.length oc] 50)
  have m0 := cell_of hat 0; have m1 := cell_of hat 1; have m2 := cell_of hat 2; have m3 := cell_of hat 3; have m4 := cell_of hat 4; have m5 := cell_of hat 5; have m6 := cell_of hat 6; have m7 := cell_of hat 7; have m8 := cell_of hat 8; have m9 := cell_of hat 9; have m10 := cell_of hat 10
  simp at m0 m1 m2 m3 m4 m5 m6 m7 m8 m9 m10
  clear h hG ha ht ho hk hb0 hat hMv hno hsr hin hmost
  go_enter Tryz.func56, Tryz.ntmps56
  go_wp2_with fail
  refine (HMS.out _ HB0.out HMV0.out).mono ?_
  rintro e w1 ⟨v1, rfl, ho1, hb1⟩
  have HB1 := Lib.hid (HB0.out.trans (hb1.mono HB0.out.size))
  obtain ⟨g1, cp1, rfl, hc1⟩ : ∃ g1 cp1, v1 = .slice (some ⟨g1, 0, none⟩) (encM ⟨kd, fr, tt, g, nd, tr, lw, co, ti, tl, os⟩).length cp1 ∧ OwnC w1 (w.alloc (.cells #[.int .i64 kd, .int .i64 fr, .int .i64 tt, .int .i64 g, .int .i64 nd, .int .i64 tr, .int .i64 lw, .int .i64 co, .int .i64 ti, .slice tA tl.length tc, .slice oA os.length oc] 50)).heap.size g1 cp1 (encM ⟨kd, fr, tt, g, nd, tr, lw, co, ti, tl, os⟩) := by
    rcases ho1 with ⟨_, e⟩ | h
    · exact (HEN.out.1 e).elim
    · exact h
  have HC1 := Lib.hid hc1
  clear ho1 hc1
  obtain ⟨n, hn⟩ : ∃ n, (encM ⟨kd, fr, tt, g, nd, tr, lw, co, ti, tl, os⟩).length = n := ⟨_, rfl⟩
  have HN := Lib.hid hn
  rw [hn]
  have hn0 : ¬ ((n : Int) = 0) := by
    have h1 := HEN.out.1
    intro e
    have e2 : n = 0 := by omega
    rw [e2] at hn
    exact h1 (List.eq_nil_of_length_eq_zero hn)
  clear hn
  go_wp2_with fail
  refine (HPA.out _ HB1.out).mono ?_
  rintro e w2 ⟨rfl, hb2⟩
  have HB2 := Lib.hid (HB1.out.trans (hb2.mono HB1.out.size))
  have HB12 := Lib.hid hb2
  clear hb2
  go_wp2_with fail
  refine (HFU.out _ HB2.out).mono ?_
  rintro e w3 ⟨rfl, hb3⟩
  have HB3 := Lib.hid (HB2.out.trans (hb3.mono HB2.out.size))
  have HB13 := Lib.hid (HB12.out.trans (hb3.mono HB12.out.size))
  clear hb3
  by_cases hfl : most ≤ (L.length : Int)
  · rw [decide_eq_true hfl]
    have hok : ok = false := HOK.out.symm.trans (decide_eq_false (by omega))
    subst hok
    clear hfl
    go_wp2_with fail
    refine bodyPost_ret (results_none rfl _ _ _) rfl ?_
    exact ⟨rfl, HNO.out _ HB3.out⟩
  · rw [decide_eq_false hfl]
    have hok : ok = true := HOK.out.symm.trans (decide_eq_true (by omega))
    subst hok
    have hL : L.length + 1 ≤ 1024 := by have := HMO.out; omega
    obtain ⟨x, hx⟩ : ∃ x : Pk, x = ⟨encM ⟨kd, fr, tt, g, nd, tr, lw, co, ti, tl, os⟩, max fr tt, 0, w3.heap.size, g1, cp1⟩ := ⟨_, rfl⟩
    have hb4 := below_new (w := w3) (.cells #[.slice (some ⟨g1, 0, none⟩) n cp1, .int .i64 (max fr tt), .int .i64 0] 125)
    have hat4 := alloc_at w3 (.cells #[.slice (some ⟨g1, 0, none⟩) n cp1, .int .i64 (max fr tt), .int .i64 0] 125)
    have hb5 := below_new (w := w3.alloc (.cells #[.slice (some ⟨g1, 0, none⟩) n cp1, .int .i64 (max fr tt), .int .i64 0] 125)) (.cells #[.pointer (some ⟨w3.heap.size, 0, none⟩)] 120)
    have hat5 := alloc_at (w3.alloc (.cells #[.slice (some ⟨g1, 0, none⟩) n cp1, .int .i64 (max fr tt), .int .i64 0] 125)) (.cells #[.pointer (some ⟨w3.heap.size, 0, none⟩)] 120)
    rw [asz] at hat5
    have hb45 : Below w.heap.size w ((w3.alloc (.cells #[.slice (some ⟨g1, 0, none⟩) n cp1, .int .i64 (max fr tt), .int .i64 0] 125)).alloc (.cells #[.pointer (some ⟨w3.heap.size, 0, none⟩)] 120)) := HB3.out.trans ((hb4.trans (hb5.mono hb4.size)).mono HB3.out.size)
    have hb35 : Below w3.heap.size w3 ((w3.alloc (.cells #[.slice (some ⟨g1, 0, none⟩) n cp1, .int .i64 (max fr tt), .int .i64 0] 125)).alloc (.cells #[.pointer (some ⟨w3.heap.size, 0, none⟩)] 120)) := hb4.trans (hb5.mono hb4.size)
    have hg1 : w.heap.size ≤ g1 ∧ g1 < w3.heap.size := ⟨Nat.le_trans HB0.out.size HC1.out.new, Nat.lt_of_lt_of_le HC1.out.lt HB13.out.size⟩
    have hro0 : ∀ k, w.heap.size ≤ k → ro k = 0 := fun k hk => by
      by_cases h0 : ro k = 0
      · exact h0
      · have := HH.out.lt k h0; omega
    have hbes := (HH.out.below hb45).beside (x := x) (by
      rw [hx]
      show _ = some (Obj.cells #[.slice (some ⟨g1, 0, none⟩) (encM ⟨kd, fr, tt, g, nd, tr, lw, co, ti, tl, os⟩).length cp1, .int .i64 (max fr tt), .int .i64 0] 125 (0, 0))
      rw [HN.out]
      exact (hb5.block _ (heap_lt hat4)).trans hat4) (by
      rw [hx]
      exact ((HC1.out.lower').keep HB13.out.size (HB13.out.block _ HC1.out.lt)).keep hb35.size (hb35.block _ hg1.2)) (by rw [hx]; exact HEN.out) (by
      rw [hx]
      exact ⟨hro0 _ HB3.out.size, hro0 _ hg1.1⟩) (by rw [hx]; show w3.heap.size ≠ g1; omega)
    obtain ⟨v', w6, ro', hr6, hc6, hf6, hn6, hst6, ⟨A6, n6, c6, rfl⟩, _⟩ := napp hbes.1 hbes.2 hL (q := w3.heap.size + 1) (by rw [hx]; exact hat5)
    have hcb : w3.cell? ⟨b, 1, none⟩ = some v := (HH.out.below HB3.out).cell1
    have HFIN : Hid (SendP w b most L mp C c ro ⟨kd, fr, tt, g, nd, tr, lw, co, ti, tl, os⟩ true (w6.setCell ⟨b, 1, none⟩ (.slice A6 n6 c6))) := Lib.hid ⟨_, ro', L ++ [x], hn6, ⟨((Touch.of_below hb45 : Touch (fun k => ro k ≠ 0) _ _)).trans hst6.1 (fun k hk e => by
        have h1 : roPk ro x.pb x.g k = ro k := by
          unfold roPk
          rw [hx, if_neg (by show ¬ k = w3.heap.size; have := HB3.out.size; omega), if_neg (by show ¬ k = g1; omega)]
        rw [h1] at e
        exact e), fun k hk => by
        rw [hst6.2 k (Nat.lt_of_lt_of_le hk hb45.size)]
        unfold roPk
        rw [hx, if_neg (by show ¬ k = w3.heap.size; have := HB3.out.size; omega), if_neg (by show ¬ k = g1; omega)]⟩, fun _ => ⟨x, rfl, by rw [hx]; rfl⟩, fun e => by cases e⟩
    clear hfl hL hx hb4 hat4 hb5 hat5 hb45 hb35 hg1 hro0 hbes hn6 hst6
    go_wp2_with (at_builtin; refine wpList_app_run rfl _ _ _ _ rfl rfl rfl hr6 ?_)
    go_end0
    exact ⟨rfl, HFIN.out⟩
end
end Go.Proofs.YtmbonngjkgcijaaGreatDoor

namespace Go.Proofs.YtmbonngjkgcijaaGreatDoor
open Go.RowKit Go.Shelf

/-- A message's eleven cells from an address on. -/
def M11 (W : World) (p : Addr) (m : MsgV) (tA : Option Addr) (tc : Nat) (oA : Option Addr) (oc : Nat) : Prop := W.cell? p = some (.int .i64 m.kd) ∧ W.cell? ⟨p.block, p.off + 1, none⟩ = some (.int .i64 m.fr) ∧ W.cell? ⟨p.block, p.off + 2, none⟩ = some (.int .i64 m.tt) ∧ W.cell? ⟨p.block, p.off + 3, none⟩ = some (.int .i64 m.g) ∧ W.cell? ⟨p.block, p.off + 4, none⟩ = some (.int .i64 m.nd) ∧ W.cell? ⟨p.block, p.off + 5, none⟩ = some (.int .i64 m.tr) ∧ W.cell? ⟨p.block, p.off + 6, none⟩ = some (.int .i64 m.lw) ∧ W.cell? ⟨p.block, p.off + 7, none⟩ = some (.int .i64 m.co) ∧ W.cell? ⟨p.block, p.off + 8, none⟩ = some (.int .i64 m.ti) ∧ W.cell? ⟨p.block, p.off + 9, none⟩ = some (.slice tA m.tl.length tc) ∧ W.cell? ⟨p.block, p.off + 10, none⟩ = some (.slice oA m.os.length oc)
theorem M11.below {w w' : World} {p : Addr} {m : MsgV} {tA oA : Option Addr} {tc oc : Nat} (h : M11 w p m tA tc oA oc) (hp : p.block < w.heap.size) (hb : Below w.heap.size w w') : M11 w' p m tA tc oA oc := by
  unfold M11 at h ⊢
  obtain ⟨a0, a1, a2, a3, a4, a5, a6, a7, a8, a9, a10⟩ := h
  exact ⟨(hb.cell hp).trans a0, (hb.cell (p := ⟨p.block, p.off + 1, none⟩) hp).trans a1, (hb.cell (p := ⟨p.block, p.off + 2, none⟩) hp).trans a2, (hb.cell (p := ⟨p.block, p.off + 3, none⟩) hp).trans a3, (hb.cell (p := ⟨p.block, p.off + 4, none⟩) hp).trans a4, (hb.cell (p := ⟨p.block, p.off + 5, none⟩) hp).trans a5, (hb.cell (p := ⟨p.block, p.off + 6, none⟩) hp).trans a6, (hb.cell (p := ⟨p.block, p.off + 7, none⟩) hp).trans a7, (hb.cell (p := ⟨p.block, p.off + 8, none⟩) hp).trans a8, (hb.cell (p := ⟨p.block, p.off + 9, none⟩) hp).trans a9, (hb.cell (p := ⟨p.block, p.off + 10, none⟩) hp).trans a10⟩
end Go.Proofs.YtmbonngjkgcijaaGreatDoor
