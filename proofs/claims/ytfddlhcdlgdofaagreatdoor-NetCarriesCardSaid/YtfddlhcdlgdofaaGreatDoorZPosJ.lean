/- The box: what is due, in plain words; a request is sent. -/
import Derived.Test.YtfddlhcdlgdofaaGreatDoorZFirA
set_option linter.unusedSimpArgs false
set_option linter.unusedVariables false
set_option linter.unnecessarySimpa false
namespace Go.Proofs.YtfddlhcdlgdofaaGreatDoor
open Go.RowKit Go.Shelf

/-- A message that is told, and where its lists lie. -/
structure Ot where
  m : MsgV
  tA : Option Addr
  tc : Nat
  oA : Option Addr
  oc : Nat
def Ot.c (o : Ot) : List Value := (cellM o.m o.tA o.tc o.oA o.oc).toList
theorem Ot.len (o : Ot) : o.c.length = 11 := rfl
theorem ots_len (l : List Ot) : (l.flatMap Ot.c).length = l.length * 11 := by
  induction l with
  | nil => rfl
  | cons o r ih => rw [List.flatMap_cons, List.length_append, ih, Ot.len, List.length_cons]; omega
/-- The requests, those of S sent now, as far as they were due. -/
def fireL (ev now : Int) (S : List Int) (L : List Rq) : List Rq := L.map fun e => if e.m.g ∈ S ∧ dueB ev now e = true then e.fired now else e
theorem fireL_nil (ev now : Int) (L : List Rq) : fireL ev now [] L = L := by
  unfold fireL
  simp
theorem fired_g (e : Rq) (now : Int) : (e.fired now).m = e.m := rfl
theorem fireL_get {ev now : Int} {S : List Int} {L : List Rq} {j : Nat} {x : Rq} (h : L[j]? = some x) (hx : x.m.g ∉ S) : (fireL ev now S L)[j]? = some x := by
  unfold fireL
  rw [List.getElem?_map, h]
  simp [hx]
theorem fireL_skip {ev now : Int} {S : List Int} {L : List Rq} {j : Nat} {x : Rq} (h : L[j]? = some x) (hinj : ∀ (i k : Nat) (a b : Rq), L[i]? = some a → L[k]? = some b → a.m.g = b.m.g → i = k) (hd : dueB ev now x = false) : fireL ev now (S ++ [x.m.g]) L = fireL ev now S L := by
  unfold fireL
  refine List.map_congr_left fun e he => ?_
  obtain ⟨i, hi⟩ := List.getElem?_of_mem he
  by_cases hg : e.m.g = x.m.g
  · have := hinj i j e x hi h hg
    subst this
    rw [hi] at h
    cases h
    simp [hd]
  · simp [hg]
theorem fireL_set {ev now : Int} {S : List Int} {L : List Rq} {j : Nat} {x : Rq} (h : L[j]? = some x) (hinj : ∀ (i k : Nat) (a b : Rq), L[i]? = some a → L[k]? = some b → a.m.g = b.m.g → i = k) (hd : dueB ev now x = true) : fireL ev now (S ++ [x.m.g]) L = (fireL ev now S L).set j (x.fired now) := by
  refine List.ext_getElem? fun i => ?_
  unfold fireL
  rw [List.getElem?_set, List.length_map]
  have hj := (List.getElem?_eq_some_iff.1 h).1
  by_cases hij : j = i
  · subst hij
    rw [if_pos rfl, if_pos hj, List.getElem?_map, h]
    simp [hd]
  · rw [if_neg hij, List.getElem?_map, List.getElem?_map]
    cases hi : L[i]? with
    | none => rfl
    | some e =>
      have hg : e.m.g ≠ x.m.g := fun hg => hij (hinj i j e x hi h hg).symm
      simp [hg]
theorem fireL_all {ev now : Int} {S : List Int} {L : List Rq} (h : ∀ e ∈ L, e.m.g ∈ S) : fireL ev now S L = L.map fun e => if dueB ev now e = true then e.fired now else e := by
  unfold fireL
  refine List.map_congr_left fun e he => ?_
  simp [h e he]
section
variable {w w' : World} {b mp : Nat} {ev : Int} {L : List Rq} {c : Nat} {R : Nat → Prop}
theorem BoxAt.fire (h : BoxAt w b mp ev L c R) {j : Nat} {x : Rq} (hj : L[j]? = some x) {now : Int} (ht : Touch (fun k => k = x.rb) w w') (hc : w'.heap[x.rb]? = some (.cells (x.fired now).cells 155 (0, 0))) : BoxAt w' b mp ev (L.set j (x.fired now)) c R := by
  have hx := List.mem_of_getElem? hj
  have hR := h.inR x hx
  have hmem : ∀ e ∈ L.set j (x.fired now), (e ∈ L ∧ e.rb ≠ x.rb) ∨ e = x.fired now := by
    intro e he
    obtain ⟨i, hi⟩ := List.getElem?_of_mem he
    rw [List.getElem?_set] at hi
    split at hi
    · split at hi
      · cases hi; exact .inr rfl
      · cases hi
    · rename_i hne
      exact .inl ⟨List.mem_of_getElem? hi, fun q => hne (h.one i j e x hi hj q).symm⟩
  have hT : ∀ e ∈ L, e.m.tl ≠ [] → ∀ a, e.tA = some a → ¬ a.block = x.rb := fun e he hl a ha q => (h.farT e he hl a ha).1 (q ▸ hR)
  have hO : ∀ e ∈ L, e.m.os ≠ [] → ∀ a, e.oA = some a → ¬ a.block = x.rb := fun e he hl a ha q => (h.farO e he hl a ha).1 (q ▸ hR)
  refine ⟨?_, ?_, fun e he => ?_, fun e he => ?_, fun e he => ?_, fun e he => ?_, fun e he => ?_, fun e he => ?_, fun e he => ?_, fun e he => ?_, fun k hk => ?_, h.offR, ?_⟩
  · exact (ht.block b (heap_lt h.head) (fun q => h.offR.2.1 (q ▸ hR))).trans h.head
  · have e1 : (L.set j (x.fired now)).map Rq.me = L.map Rq.me := by
      rw [map_set']
      refine List.ext_getElem? fun i => ?_
      rw [List.getElem?_set]
      split
      · rename_i hij
        subst hij
        rw [if_pos (by rw [List.length_map]; exact (List.getElem?_eq_some_iff.1 hj).1), List.getElem?_map, hj]
        rfl
      · rfl
    rw [e1]
    exact h.map.keep (ht.block mp h.map.lt (fun q => h.offR.1 (q ▸ hR)))
  · rcases hmem e he with ⟨h1, h2⟩ | rfl
    · exact (ht.block _ (heap_lt (h.req e h1)) h2).trans (h.req e h1)
    · exact hc
  · rcases hmem e he with ⟨h1, _⟩ | rfl
    · exact (h.tl e h1).touch ht (hT e h1)
    · exact (h.tl x hx).touch ht (hT x hx)
  · rcases hmem e he with ⟨h1, _⟩ | rfl
    · exact (h.os e h1).touch ht (hO e h1)
    · exact (h.os x hx).touch ht (hO x hx)
  · rcases hmem e he with ⟨h1, _⟩ | rfl
    · exact h.keys e h1
    · exact h.keys x hx
  · rcases hmem e he with ⟨h1, _⟩ | rfl
    · exact h.may e h1
    · exact h.may x hx
  · rcases hmem e he with ⟨h1, _⟩ | rfl
    · exact h.farT e h1
    · exact h.farT x hx
  · rcases hmem e he with ⟨h1, _⟩ | rfl
    · exact h.farO e h1
    · exact h.farO x hx
  · rcases hmem e he with ⟨h1, _⟩ | rfl
    · exact h.inR e h1
    · exact hR
  · exact Nat.lt_of_lt_of_le (h.ltR k hk) ht.size
  · intro p q a d ha hd hab
    have key : ∀ (p : Nat) (a : Rq), (L.set j (x.fired now))[p]? = some a → ∃ a', L[p]? = some a' ∧ a'.rb = a.rb := by
      intro p a ha
      rw [List.getElem?_set] at ha
      split at ha
      · rename_i hjp
        subst hjp
        split at ha
        · cases ha; exact ⟨x, hj, rfl⟩
        · cases ha
      · exact ⟨a, ha, rfl⟩
    obtain ⟨a', ha', e1⟩ := key p a ha
    obtain ⟨d', hd', e2⟩ := key q d hd
    exact h.one p q a' d' ha' hd' (by rw [e1, e2, hab])
end
theorem infoM : (Tryz.prog.info? 50).map (fun i => (i.zero, i.size, i.bytes)) = some (some zeroM, 11, 120) := by kernel_rfl
end Go.Proofs.YtfddlhcdlgdofaaGreatDoor
