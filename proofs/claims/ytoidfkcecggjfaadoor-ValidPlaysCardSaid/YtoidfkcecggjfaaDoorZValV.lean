/- The history and the reference side by side. -/
import Derived.Test.YtoidfkcecggjfaaDoorZValO
import Derived.Test.YtoidfkcecggjfaaDoorZValT
import Derived.Test.YtoidfkcecggjfaaDoorZValU
set_option linter.unusedSimpArgs false
set_option linter.unusedVariables false
set_option linter.unnecessarySimpa false
namespace Go.Proofs.YtoidfkcecggjfaaDoor
open Go.RowKit Go.Shelf

/-- Both, since w0: the same commits, the same floor; no block of the one is turned by the other. -/
structure BothP (w0 w : World) (h r F : Nat) (A : List (List K)) (v : Value) (vs : List Value) (u : Value) (us : List Value) : Prop where
  hh : HH w h v F vs (A.drop F)
  ra : RAt w r u F us A
  hF : F ≤ A.length
  g0 : Glob w0
  below : Below w0.heap.size w0 w
  hb : w0.heap.size ≤ h
  rb : w0.heap.size ≤ r
  vb : ∀ b, v.ownBlock = some b → w0.heap.size ≤ b
  hr : h ≠ r
  vr : v.ownBlock ≠ some r
  vsr : ∀ x ∈ vs, x.ownBlock ≠ some r
  uh : u.ownBlock ≠ some h
  ush : ∀ x ∈ us, x.ownBlock ≠ some h
  vu : ∀ b, v.ownBlock = some b → u.ownBlock ≠ some b ∧ ∀ x ∈ us, x.ownBlock ≠ some b
def BothV (w0 w : World) (h r F : Nat) (A : List (List K)) : Prop := ∃ v vs u us, BothP w0 w h r F A v vs u us
section
variable {w0 w w' : World} {h r F : Nat} {A : List (List K)} {v u : Value} {vs us : List Value}
theorem BothP.keep (b : BothP w0 w h r F A v vs u us) (hb : Below w.heap.size w w') : BothP w0 w' h r F A v vs u us :=
  ⟨b.hh.below hb, b.ra.below hb, b.hF, b.g0, b.below.trans (hb.mono b.below.size), b.hb, b.rb, b.vb, b.hr, b.vr, b.vsr, b.uh, b.ush, b.vu⟩
theorem BothV.keep (b : BothV w0 w h r F A) (hb : Below w.heap.size w w') : BothV w0 w' h r F A := by
  obtain ⟨v, vs, u, us, b⟩ := b
  exact ⟨v, vs, u, us, b.keep hb⟩
/-- What a call of the reference turns, r alone, the history does not feel. -/
theorem BothP.hist (b : BothP w0 w h r F A v vs u us) (ht : Touch (fun k => k = r) w w') : HH w' h v F vs (A.drop F) :=
  ⟨b.hh.toHistAt.touch ht b.hr (fun g e h => b.vr (h ▸ e)) (fun x hx g e h => b.vsr x hx (h ▸ e)), b.hh.good, b.hh.few, b.hh.glob.touch ht (by have := b.g0.lt; have := b.rb; omega), b.hh.free, b.hh.hfree⟩
/-- What a call of the history turns, the reference does not feel. -/
theorem BothP.refs (b : BothP w0 w h r F A v vs u us) (ht : Touch (fun k => k = h ∨ v.ownBlock = some k) w w') : RAt w' r u F us A :=
  b.ra.touch ht (fun e => e.elim (fun e => b.hr e.symm) b.vr) (fun g e k => k.elim (fun k => b.uh (k ▸ e)) (fun k => (b.vu g k).1 e)) (fun x hx g e k => k.elim (fun k => b.ush x hx (k ▸ e)) (fun k => (b.vu g k).2 x hx e))
theorem RAt.own_lt (hra : RAt w r u F us A) : ∀ x ∈ us, ∀ b, x.ownBlock = some b → b < w.heap.size := fun x hx b e => by
  obtain ⟨i, hi⟩ := List.getElem?_of_mem hx
  have hil := (List.getElem?_eq_some_iff.1 hi).1
  rw [hra.len] at hil
  obtain ⟨y, hy, hry, _⟩ := hra.each i _ (List.getElem?_eq_getElem hil)
  rw [hi] at hy
  obtain rfl := Option.some.inj hy
  exact RowIs.lt hry b e
/-- A call of the history, then the same of the reference. -/
theorem BothP.step (b : BothP w0 w h r F A v vs u us) {w1 w2 : World} {F' : Nat} {A' : List (List K)} {v' u' : Value} {vs' us' : List Value} (h1 : HH w1 h v' F' vs' (A'.drop F')) (t1 : Touch (fun k => k = h ∨ v.ownBlock = some k) w w1)
    (o1 : ∀ k, v'.ownBlock = some k → v.ownBlock = some k ∨ w.heap.size ≤ k) (o2 : ∀ x ∈ vs', ∀ k, x.ownBlock = some k → (∃ y ∈ vs, y.ownBlock = some k) ∨ w.heap.size ≤ k) (r2 : RAt w2 r u' F' us' A') (t2 : Touch (fun k => k = r) w1 w2)
    (o3 : ∀ k, u'.ownBlock = some k → u.ownBlock = some k ∨ w1.heap.size ≤ k) (o4 : ∀ x ∈ us', x ∈ us ∨ ∀ k, x.ownBlock = some k → w1.heap.size ≤ k) (hF' : F' ≤ A'.length) : BothP w0 w2 h r F' A' v' vs' u' us' := by
  have hrl := heap_lt b.ra.head
  have hhl := heap_lt b.hh.head
  have hs1 := t1.size
  have hs0 := b.below.size
  have vr' : v'.ownBlock ≠ some r := fun e => (o1 r e).elim b.vr (fun e => by omega)
  have vsr' : ∀ x ∈ vs', x.ownBlock ≠ some r := fun x hx e => (o2 x hx r e).elim (fun ⟨y, hy, e⟩ => b.vsr y hy e) (fun e => by omega)
  have hb1 := t1.below (B := w0.heap.size) (fun i e => e.elim (fun e => by rw [e]; exact b.hb) (fun e => b.vb i e)) hs0
  have hb2 := t2.below (B := w0.heap.size) (fun i e => by rw [e]; exact b.rb) (Nat.le_trans hs0 hs1)
  refine ⟨⟨h1.toHistAt.touch t2 b.hr (fun g e h => vr' (h ▸ e)) (fun x hx g e h => vsr' x hx (h ▸ e)), h1.good, h1.few, h1.glob.touch t2 (by have := b.g0.lt; have := b.rb; omega), h1.free, h1.hfree⟩, r2, hF', b.g0, (b.below.trans hb1).trans hb2, b.hb, b.rb, fun k e => (o1 k e).elim (b.vb k) (fun e => by omega), b.hr, vr', vsr', fun e => (o3 h e).elim b.uh (fun e => by omega), fun x hx e => (o4 x hx).elim (fun hx => b.ush x hx e) (fun q => by have := q h e; omega), fun k e => ?_⟩
  have hk1 : k < w1.heap.size := RowIs.lt h1.row k e
  refine ⟨fun e2 => ?_, fun x hx e2 => ?_⟩
  · rcases o3 k e2 with e3 | e3
    · rcases o1 k e with e4 | e4
      · exact (b.vu k e4).1 e3
      · have := RowIs.lt b.ra.row k e3
        omega
    · omega
  · rcases o4 x hx with hx2 | q
    · rcases o1 k e with e4 | e4
      · exact (b.vu k e4).2 x hx2 e2
      · have := b.ra.own_lt x hx2 k e2
        omega
    · have := q k e2
      omega
end
end Go.Proofs.YtoidfkcecggjfaaDoor
