/- Rows of one's own that the law writes over. -/
import Derived.Test.YtoidfkcecggjfaaDoorZValW
import Derived.Test.YtoidfkcecggjfaaDoorZValR
set_option linter.unusedSimpArgs false
set_option linter.unusedVariables false
set_option linter.unnecessarySimpa false
namespace Go.Proofs.YtoidfkcecggjfaaDoor
open Go.RowKit Go.Shelf

theorem src_txt {w : World} {A : Option Addr} {n c : Nat} {us : List Value} (h : RowIs w 1 (.slice A n c) n us) (h1 : ∀ u ∈ us, u.oneCell' = true) : Src Tryd.prog 1 29 (.slice A n c) n us w := by
  rcases h with ⟨e, h2, h3⟩ | ⟨g, cap, e, h2, h3, hc⟩
  · injection e with e1 e2 e3
    subst e1 e2 e3
    subst h3
    exact Src.ofNil _ Tryd.underlying29 0
  · injection e with e1 e2 e3
    subst e1 e3
    exact Src.ofSlice _ Tryd.underlying29 ⟨g, 0, none⟩ n c us (by omega) (fun j u hu => by rw [add0]; exact hc.holds j u hu) h1
theorem strs_one (l : List K) : ∀ u ∈ strs l, u.oneCell' = true := fun u hu => by
  obtain ⟨s, _, rfl⟩ := List.mem_map.1 hu
  rfl
/-- append([]string{}, l...) -/
theorem mine_app {w : World} {A : Option Addr} {n c : Nat} {us : List Value} (hrow : RowIs w 1 (.slice A n c) n us) (h1 : ∀ u ∈ us, u.oneCell' = true) (hn : n ≤ 1000) :
    ∃ A1 c1 w1, (Builtin.append_ #[29, 29] 29 #[.slice (some ⟨w.heap.size, 0, none⟩) 0 0, .slice A n c]).run Tryd.prog (w.alloc (.cells #[] 9)) = .ok (.slice A1 n c1) w1
      ∧ RowIs w1 1 (.slice A1 n c1) n us ∧ (∀ k, (Value.slice A1 n c1).ownBlock = some k → w.heap.size ≤ k) ∧ Below w.heap.size w w1 := by
  have hb1 := below_new (w := w) (.cells #[] 9)
  have hat := alloc_at w (.cells #[] 9)
  have hrow0 : RowIs (w.alloc (.cells #[] 9)) 1 (.slice (some ⟨w.heap.size, 0, none⟩) 0 0) 0 [] := .inr ⟨w.heap.size, 0, rfl, rfl, Nat.le_refl _, heap_lt hat, Nat.zero_le _, by unfold maxLen; omega, fun j u hj => by simp at hj, fun j hj => by omega⟩
  obtain ⟨v1, w1, hr1, h2, h3, h4⟩ := run_append_row (w.alloc (.cells #[] 9)) 29 9 29 29 Tryd.underlying29 infoT rfl (by omega) (by omega) _ 0 n [] us _ hrow0 (src_txt (hrow.below hb1) h1) (by omega)
  rw [Nat.zero_add, List.nil_append] at h2
  have hown : ∀ k, v1.ownBlock = some k → w.heap.size ≤ k := fun k e => by
    rcases h4 with e2 | e2
    · rw [e2] at e
      have e : w.heap.size = k := Option.some.inj e
      omega
    · rw [e] at e2
      injection e2 with e2
      rw [asz] at e2
      omega
  have hbB : Below w.heap.size w w1 := hb1.trans (((Touch.refl (fun k => (Value.slice (some ⟨w.heap.size, 0, none⟩) 0 0).ownBlock = some k) _).grown h3 (fun k e _ => e)).below (fun i e => by have e : w.heap.size = i := Option.some.inj e; omega) hb1.size)
  obtain ⟨A1, c1, rfl, _⟩ := id h2.form
  exact ⟨A1, c1, w1, hr1, h2, hown, hbB⟩
/-- One place of a row of one's own is written. -/
theorem row_putM {W : World} {g n c : Nat} {l : List Value} (h : RowIs W 1 (.slice (some ⟨g, 0, none⟩) n c) n l) {i : Nat} (hi : i < n) (u : Value) : RowIs (W.setCell ⟨g, i, none⟩ u) 1 (.slice (some ⟨g, 0, none⟩) n c) n (l.set i u) := by
  rcases h with ⟨e, _⟩ | ⟨g', cap, e, h1, h2, h3⟩
  · cases e
  · injection e with e _ e2
    injection e with e
    injection e with e
    subst e
    subst e2
    have hex : (W.cell? ⟨g, i, none⟩).isSome = true := (h3.there i (by omega)).1
    refine .inr ⟨g, c, rfl, by rw [List.length_set]; exact h1, h2, ⟨Nat.lt_of_lt_of_le h3.lt (Touch.setCell (S := fun _ => True) (Touch.refl _ W) ⟨g, i, none⟩ (fun _ => trivial) u).size, by rw [List.length_set]; exact h3.le, h3.max, fun j b hj => ?_, fun j hj => ?_⟩⟩
    · by_cases hij : i = j
      · subst hij
        rw [List.getElem?_set_self (by rw [h1]; omega)] at hj
        obtain rfl := Option.some.inj hj
        exact World.cell?_setCell_same' _ _ _ hex
      · rw [List.getElem?_set_ne hij] at hj
        rw [World.cell?_setCell_other _ _ _ _ (by intro e; injection e with _ e; exact hij e)]
        exact h3.holds j b hj
    · obtain ⟨q1, q2⟩ := h3.there j hj
      refine ⟨?_, by rw [World.frozen?_setCell]; exact q2⟩
      by_cases hij : i = j
      · subst hij
        rw [World.cell?_setCell_same' _ _ _ hex]; rfl
      · rw [World.cell?_setCell_other _ _ _ _ (by intro e; injection e with _ e; exact hij e)]
        exact q1
/-- A row of one's own, and the world since: it alone was written. -/
def Mine (w : World) (A : Option Addr) (n c : Nat) (wr : World) : Prop := (∃ l, RowIs wr 1 (.slice A n c) n l) ∧ Touch (fun k => (Value.slice A n c).ownBlock = some k) w wr
theorem Mine.base {w wr : World} {A : Option Addr} {n c : Nat} (h : Mine w A n c wr) {i : Nat} (hi : i < n) : ∃ g x, A = some ⟨g, 0, none⟩ ∧ wr.cell? ⟨g, i, none⟩ = some x ∧ wr.frozen? ⟨g, i, none⟩ = false := by
  obtain ⟨⟨l, hr⟩, _⟩ := h
  rcases hr with ⟨e, h2, _⟩ | ⟨g, cap, e, h1, h2, h3⟩
  · omega
  · injection e with e1 _ e3
    obtain ⟨q1, q2⟩ := h3.there i (by omega)
    obtain ⟨x, hx⟩ := Option.isSome_iff_exists.1 q1
    exact ⟨g, x, e1, hx, q2⟩
theorem Mine.put {w wr : World} {g n c : Nat} (h : Mine w (some ⟨g, 0, none⟩) n c wr) {i : Nat} (hi : i < n) (u : Value) : Mine w (some ⟨g, 0, none⟩) n c (wr.setCell ⟨g, i, none⟩ u) := by
  obtain ⟨⟨l, hr⟩, ht⟩ := h
  exact ⟨⟨_, row_putM hr hi u⟩, ht.setCell ⟨g, i, none⟩ (fun _ => rfl) u⟩
theorem Mine.drew {w wr : World} {A : Option Addr} {n c : Nat} (h : Mine w A n c wr) : Mine w A n c wr.drew := by
  obtain ⟨⟨l, hr⟩, ht⟩ := h
  exact ⟨⟨l, hr.keep (Nat.le_refl _) (fun _ _ => rfl)⟩, ht.drew⟩
theorem Mine.since {w wB wr : World} {Am : Option Addr} {nm cm : Nat} (h : Mine wB Am nm cm wr) (hb : Below w.heap.size w wB) (ho : ∀ k, (Value.slice Am nm cm).ownBlock = some k → w.heap.size ≤ k) : Below w.heap.size w wr := hb.trans (h.2.below (fun i e => ho i e) hb.size)
section
variable {w0 w w' : World} {h r F : Nat} {A : List (List K)} {v u : Value} {vs us : List Value}
/-- Add of the history; what it was given is written over; then the reference's Add. -/
theorem BothP.added (b : BothP w0 w h r F A v vs u us) {wA wB wC : World} {ks keys : List K} {Am : Option Addr} {nm cm : Nat} (hA : Below w.heap.size w wA) (hm : ∀ k, (Value.slice Am nm cm).ownBlock = some k → w.heap.size ≤ k ∧ k < wA.heap.size) (hp : AddPost wA h v F vs (A.drop F) ks wB) (hc : Mine wB Am nm cm wC) (hks : rises keys = ks) :
    (∀ {kv : Value}, RowIs wA 1 kv keys.length (strs keys) → (∀ k, kv.ownBlock = some k → w.heap.size ≤ k ∧ (Value.slice Am nm cm).ownBlock ≠ some k) → RowIs wC 1 kv keys.length (strs keys)) ∧ RAt wC r u F us A ∧
    ∀ w2 : World, (∃ u' us', RAt w2 r u' F us' (A ++ [setP keys]) ∧ Touch (fun b => b = r) wC w2 ∧ (∀ b, u'.ownBlock = some b → u.ownBlock = some b ∨ wC.heap.size ≤ b) ∧ ∀ x ∈ us', x ∈ us ∨ ∀ b, x.ownBlock = some b → wC.heap.size ≤ b) → BothV w0 w2 h r F (A ++ [ks]) := by
  obtain ⟨v', vs', h1, t1, o1, o2⟩ := hp
  obtain ⟨_, tm⟩ := hc
  have hsA := hA.size
  have hhl := heap_lt b.hh.head
  have hvl := fun k e => RowIs.lt b.hh.row k e
  have hvs : ∀ y ∈ vs, ∀ k, y.ownBlock = some k → k < w.heap.size := fun y hy k e => by
    obtain ⟨i, hi⟩ := List.getElem?_of_mem hy
    have hil := (List.getElem?_eq_some_iff.1 hi).1
    rw [b.hh.len] at hil
    obtain ⟨y', hy', hry, _⟩ := b.hh.each i _ (List.getElem?_eq_getElem hil)
    rw [hi] at hy'
    obtain rfl := Option.some.inj hy'
    exact RowIs.lt hry k e
  have tAC : Touch (fun k => k = h ∨ v.ownBlock = some k) w wC := (Touch.ahead hA t1).trans tm (fun i hi e => by have := hm i e; omega)
  have hC : HH wC h v' F vs' (A.drop F ++ [ks]) := ⟨h1.toHistAt.touch tm (fun e => by have := hm h e; omega) (fun g e e2 => by
      have := hm g e2
      rcases o1 g e with e3 | e3
      · have := hvl g e3; omega
      · omega) (fun x hx g e e2 => by
      have := hm g e2
      rcases o2 x hx g e with ⟨y, hy, e3⟩ | e3
      · have := hvs y hy g e3; omega
      · omega), h1.good, h1.few, h1.glob.touch tm (fun e => by have := hm _ e; have := b.g0.lt; have := b.below.size; omega), h1.free, h1.hfree⟩
  refine ⟨fun hr ho => RowIs.touch (RowIs.touch hr t1 (fun g e e2 => ?_)) tm (fun g e e2 => (ho g e).2 e2), b.refs tAC, fun w2 h2 => ?_⟩
  · have := (ho g e).1
    rcases e2 with e2 | e2
    · omega
    · have := hvl g e2; omega
  · obtain ⟨u', us', r2, t2, o3, o4⟩ := h2
    rw [set_rises, hks] at r2
    refine ⟨v', vs', u', us', b.step (F' := F) (A' := A ++ [ks]) (w1 := wC) ?_ tAC (fun k e => (o1 k e).imp id (fun e => by omega)) (fun x hx k e => (o2 x hx k e).imp id (fun e => by omega)) r2 t2 o3 o4 (by have := b.hF; rw [List.length_append]; omega)⟩
    rw [List.drop_append_of_le_length b.hF]
    exact hC
end
theorem BothP.mine0 {w0 w wA wB : World} {h r F : Nat} {A : List (List K)} {v u : Value} {vs us : List Value} (b : BothP w0 w h r F A v vs u us) {ks : List K} {Am : Option Addr} {nm cm : Nat} (hm : ∀ k, (Value.slice Am nm cm).ownBlock = some k → w.heap.size ≤ k ∧ k < wA.heap.size) (hr : ∃ l, RowIs wA 1 (.slice Am nm cm) nm l) (hp : AddPost wA h v F vs (A.drop F) ks wB) : Mine wB Am nm cm wB := by
  obtain ⟨l, hr⟩ := hr
  obtain ⟨v', vs', h1, t1, o1, o2⟩ := hp
  have hhl := heap_lt b.hh.head
  refine ⟨⟨l, RowIs.touch hr t1 (fun g e e2 => ?_)⟩, Touch.refl _ _⟩
  have := hm g e
  rcases e2 with e2 | e2
  · omega
  · have := RowIs.lt b.hh.row g e2
    omega
theorem first_cases {A : List (List K)} {F : Nat} {m : Int} {R : List K} (hF : F ≤ A.length) :
    (∃ c : Int, checkR F (A.drop F) m R = c ∧ c ≠ 23 ∧ (firstR F (A.drop F) m R).1 = 0) ∨ ∃ j s : Nat, checkR F (A.drop F) m R = 23 ∧ (firstR F (A.drop F) m R).1 = (j : Int) ∧ 0 < j ∧ rfirstP A s R = j ∧ m = (s : Int) ∧ s ≤ A.length := by
  by_cases h1 : m < 0 ∨ (A.length : Int) < m
  · refine .inl ⟨2, check_arg hF h1, by omega, ?_⟩
    have e1 : ((F : Int) + ((A.drop F).length : Int)) = (A.length : Int) := by rw [List.length_drop]; omega
    unfold firstR
    rw [e1, if_pos h1]
  · by_cases h2 : m < (F : Int)
    · refine .inl ⟨22, check_late hF h1 h2, by omega, ?_⟩
      have e1 : ((F : Int) + ((A.drop F).length : Int)) = (A.length : Int) := by rw [List.length_drop]; omega
      unfold firstR
      rw [e1, if_neg h1, if_pos h2]
    · have hc := rfirst_check (R := R) hF h1 h2
      have e1 : ((F : Int) + ((A.drop F).length : Int)) = (A.length : Int) := by rw [List.length_drop]; omega
      have e2 : (A.drop F).drop (m.toNat - F) = A.drop m.toNat := by rw [List.drop_drop, show F + (m.toNat - F) = m.toNat by omega]
      have hf : (firstR F (A.drop F) m R).1 = (rfirstP A m.toNat R : Int) := by
        unfold firstR rfirstP
        rw [e1, if_neg h1, if_neg h2, e2]
        cases hitP (A.drop m.toNat) R with
        | none => rfl
        | some i =>
          show m + (i : Int) + 1 = ((m.toNat + i + 1 : Nat) : Int)
          omega
      rcases Nat.eq_zero_or_pos (rfirstP A m.toNat R) with h0 | h0
      · rw [h0] at hc hf
        exact .inl ⟨0, hc, by omega, hf⟩
      · rw [if_pos h0] at hc
        exact .inr ⟨_, m.toNat, hc, hf, h0, rfl, by omega, by omega⟩
theorem keys_in {A : List (List K)} {F : Nat} {n : Int} (h1 : (F : Int) < n) (h2 : n ≤ (A.length : Int)) : ∃ (i : Nat) (ks : List K), n - 1 = (i : Int) ∧ i < A.length ∧ A[i]? = some ks ∧ keysP F (A.drop F) n = ks ∧ ks ∈ A.drop F := by
  have hi : n.toNat - 1 < A.length := by omega
  refine ⟨n.toNat - 1, A[n.toNat - 1], by omega, hi, List.getElem?_eq_getElem hi, ?_, List.mem_of_getElem? (i := n.toNat - 1 - F) (by rw [List.getElem?_drop, show F + (n.toNat - 1 - F) = n.toNat - 1 by omega, List.getElem?_eq_getElem hi])⟩
  unfold keysP
  rw [if_neg (by rw [List.length_drop]; omega), List.getElem?_drop, show F + (n.toNat - F - 1) = n.toNat - 1 by omega, List.getElem?_eq_getElem hi]
  rfl
theorem keys_out {A : List (List K)} {F : Nat} {n : Int} (hF : F ≤ A.length) (h : n ≤ (F : Int) ∨ (A.length : Int) < n) : keysP F (A.drop F) n = [] := by
  unfold keysP
  rw [if_pos (by rw [List.length_drop]; omega)]
end Go.Proofs.YtoidfkcecggjfaaDoor
