/- Program and reference side by side. What is pruned changes nothing that a time from there on reads. -/
import Derived.Test.YtmaokoekbjjgfaaDoorZChdF
import Derived.Test.YtmaokoekbjjgfaaDoorZChcC
set_option linter.unusedSimpArgs false
set_option linter.unusedVariables false
set_option linter.unnecessarySimpa false
namespace Go.Proofs.YtmaokoekbjjgfaaDoor
open Go.RowKit Go.Shelf

/-- What the laws' chains keep. -/
structure Fine (L : List Ver) : Prop where
  ris : Ris L
  opn : OpnOk L
  pos : PosOk L
  shut : ∃ u ∈ L, u.opn = false
theorem Fine.ne {L : List Ver} (h : Fine L) : 0 < L.length := by
  obtain ⟨u, hu, _⟩ := h.shut
  exact List.length_pos_of_mem hu
theorem fine_new (n : Int) (th : Bool) : Fine [⟨0, n, th, 0, false⟩] :=
  ⟨List.pairwise_singleton _ _, (fun u hu e => by obtain rfl := List.mem_singleton.1 hu; rfl), (fun u hu => by obtain rfl := List.mem_singleton.1 hu; exact Int.le_refl _), ⟨_, List.mem_singleton.2 rfl, rfl⟩⟩
theorem Fine.read {L : List Ver} (h : Fine L) (t : Int) : Fine (readP L t).1 := by
  rcases readP_cases h.ris t with ⟨e, _⟩ | ⟨v, hv, e, hr, _⟩ | ⟨k, v, hv, hlt, hop, hmax, hr, _⟩
  · rw [e]; exact h
  · rw [hr]; exact h
  · rw [hr]
    show Fine (L.set k { v with read := max v.read t })
    have hm : ∀ x, x ∈ L.set k { v with read := max v.read t } ↔ x = { v with read := max v.read t } ∨ (x ∈ L ∧ x.at_ ≠ v.at_) := fun x => h.ris.mem_set hv
    have hvL : v ∈ L := List.mem_of_getElem? hv
    refine ⟨h.ris.set hv rfl, fun x hx e => ?_, fun x hx => ?_, ⟨{ v with read := max v.read t }, (hm _).2 (.inl rfl), hop⟩⟩
    · rcases (hm x).1 hx with rfl | ⟨h1, _⟩
      · rw [show ({ v with read := max v.read t } : Ver).opn = v.opn from rfl, hop] at e; cases e
      · exact h.opn x h1 e
    · rcases (hm x).1 hx with rfl | ⟨h1, _⟩
      · exact h.pos v hvL
      · exact h.pos x h1
theorem Fine.write {L : List Ver} (h : Fine L) (t n : Int) (th : Bool) : Fine (writeP L t n th).1 := by
  have hris := (writeP_ris (t := t) (n := n) (there := th) h.ris).1
  rcases writeP_cases h.ris t n th with ⟨e, _⟩ | ⟨k, v, hv, e, hop, hr, hp⟩ | ⟨v, hv, hlt, hrd, hmax, hr, hp⟩
  · rw [e]; exact h
  · rw [hr] at hris ⊢
    have hm : ∀ x, x ∈ L.set k { v with n := numT n th, there := th } ↔ x = { v with n := numT n th, there := th } ∨ (x ∈ L ∧ x.at_ ≠ v.at_) := fun x => h.ris.mem_set hv
    have hvL : v ∈ L := List.mem_of_getElem? hv
    refine ⟨hris, fun x hx e => ?_, fun x hx => ?_, ?_⟩
    · rcases (hm x).1 hx with rfl | ⟨h1, _⟩
      · exact h.opn v hvL hop
      · exact h.opn x h1 e
    · rcases (hm x).1 hx with rfl | ⟨h1, _⟩
      · exact h.pos v hvL
      · exact h.pos x h1
    · obtain ⟨u, hu, hu2⟩ := h.shut
      refine ⟨u, (hm u).2 (.inr ⟨hu, fun e2 => ?_⟩), hu2⟩
      have := h.ris.uniq hu hvL e2
      subst this
      rw [hu2] at hop; cases hop
  · rw [hr] at hris ⊢
    refine ⟨hris, fun x hx e => ?_, fun x hx => ?_, ?_⟩
    · rcases mem_put.1 hx with rfl | h1
      · rfl
      · exact h.opn x h1 e
    · rcases mem_put.1 hx with rfl | h1
      · show 0 ≤ t; omega
      · exact h.pos x h1
    · obtain ⟨u, hu, hu2⟩ := h.shut
      exact ⟨u, mem_put.2 (.inr hu), hu2⟩
theorem Fine.commit {L : List Ver} (h : Fine L) (t : Int) : Fine (commitP L t).1 := by
  unfold commitP
  rcases openP_cases (L := L) t with e | ⟨k, v, e, hv, hvt, hop⟩
  · rw [e]; exact h
  · rw [e]
    show Fine (L.set k { v with opn := false })
    have hm : ∀ x, x ∈ L.set k { v with opn := false } ↔ x = { v with opn := false } ∨ (x ∈ L ∧ x.at_ ≠ v.at_) := fun x => h.ris.mem_set hv
    have hvL : v ∈ L := List.mem_of_getElem? hv
    refine ⟨h.ris.set hv rfl, fun x hx e => ?_, fun x hx => ?_, ⟨{ v with opn := false }, (hm _).2 (.inl rfl), rfl⟩⟩
    · rcases (hm x).1 hx with rfl | ⟨h1, _⟩
      · cases e
      · exact h.opn x h1 e
    · rcases (hm x).1 hx with rfl | ⟨h1, _⟩
      · exact h.pos v hvL
      · exact h.pos x h1
theorem Fine.abort {L : List Ver} (h : Fine L) (t : Int) : Fine (abortP L t).1 := by
  unfold abortP
  rcases openP_cases (L := L) t with e | ⟨k, v, e, hv, hvt, hop⟩
  · rw [e]; exact h
  · rw [e]
    show Fine (L.eraseIdx k)
    have hvL : v ∈ L := List.mem_of_getElem? hv
    have hm : ∀ x, x ∈ L.eraseIdx k ↔ x ∈ L ∧ x.at_ ≠ v.at_ := fun x => h.ris.mem_erase hv
    refine ⟨h.ris.erase k, fun x hx e => h.opn x ((hm x).1 hx).1 e, fun x hx => h.pos x ((hm x).1 hx).1, ?_⟩
    obtain ⟨u, hu, hu2⟩ := h.shut
    refine ⟨u, (hm u).2 ⟨hu, fun e2 => ?_⟩, hu2⟩
    have := h.ris.uniq hu hvL e2
    subst this
    rw [hu2] at hop; cases hop
theorem mem_prune {L : List Ver} {t : Int} {x : Ver} : x ∈ pruneP L t ↔ x ∈ L ∧ goneV (lastP t L) x = false := by
  unfold pruneP keepV
  rw [List.mem_filter]
  simp
theorem Fine.prune {L : List Ver} (h : Fine L) (t : Int) : Fine (pruneP L t) := by
  refine ⟨h.ris.sublist (List.filter_sublist ..), fun x hx e => h.opn x (mem_prune.1 hx).1 e, fun x hx => h.pos x (mem_prune.1 hx).1, ?_⟩
  rcases lastP_of t L with ⟨h1, h2⟩ | ⟨i, u, h1, h2, h3, h4⟩
  · obtain ⟨u, hu, hu2⟩ := h.shut
    refine ⟨u, mem_prune.2 ⟨hu, ?_⟩, hu2⟩
    have := h.pos u hu
    rw [h1]
    unfold goneV
    rw [decide_eq_false (by omega)]
    simp
  · have hu2 : u.opn = false ∧ u.at_ < t := by unfold lowV at h2; simpa using h2
    refine ⟨u, mem_prune.2 ⟨List.mem_of_getElem? h1, ?_⟩, hu2.1⟩
    rw [h3]
    unfold goneV
    rw [decide_eq_false (by omega)]
    simp
/-- What a call of the laws does with a chain. -/
def stepL (L : List Ver) (kd t n : Int) (th : Bool) : List Ver :=
  if kd = 0 ∨ kd = 1 then (readP L t).1 else if kd = 2 ∨ kd = 3 then (writeP L t n th).1 else if kd = 4 then (commitP L t).1 else if kd = 5 then (abortP L t).1 else if kd = 6 then pruneP L t else L
theorem Fine.step {L : List Ver} (h : Fine L) (kd t n : Int) (th : Bool) : Fine (stepL L kd t n th) := by
  unfold stepL
  split
  · exact h.read t
  · split
    · exact h.write t n th
    · split
      · exact h.commit t
      · split
        · exact h.abort t
        · split
          · exact h.prune t
          · exact h
/-- A chain of the program and one of the reference, each with its list; boxes apart from both. -/
structure Both (w0 w : World) (c r : Nat) (Lc Lr : List Ver) (k : Nat) (bx : List (Nat × Obj)) : Prop where
  g0 : Glob w0
  both : ∃ v v', Ch w c v Lc ∧ RAt w r v' Lr ∧ (∀ b, v.ownBlock = some b → w0.heap.size ≤ b ∧ b ≠ r ∧ v'.ownBlock ≠ some b) ∧ (∀ b, v'.ownBlock = some b → w0.heap.size ≤ b ∧ b ≠ c) ∧ ∀ p ∈ bx, v.ownBlock ≠ some p.1 ∧ v'.ownBlock ≠ some p.1
  cr : c ≠ r
  cb : w0.heap.size ≤ c
  rb : w0.heap.size ≤ r
  below : Below w0.heap.size w0 w
  lenC : Lc.length ≤ k + 1
  lenR : Lr.length ≤ k + 1
  box : ∀ p ∈ bx, w.heap[p.1]? = some p.2 ∧ p.1 ≠ c ∧ p.1 ≠ r ∧ w0.heap.size ≤ p.1
section
variable {w0 w w' : World} {c r : Nat} {Lc Lr L1 : List Ver} {k k' : Nat} {bx : List (Nat × Obj)}
theorem Both.keep (h : Both w0 w c r Lc Lr k bx) (hb : Below w.heap.size w w') : Both w0 w' c r Lc Lr k bx := by
  obtain ⟨v, v', hc, hr, h1, h2, h3⟩ := h.both
  exact ⟨h.g0, ⟨v, v', hc.below hb, hr.below hb, h1, h2, h3⟩, h.cr, h.cb, h.rb, h.below.trans (hb.mono h.below.size), h.lenC, h.lenR, fun p hp => ⟨(hb.block _ (heap_lt (h.box p hp).1)).trans (h.box p hp).1, (h.box p hp).2⟩⟩
theorem Both.upto (h : Both w0 w c r Lc Lr k bx) (hk : k ≤ k') : Both w0 w c r Lc Lr k' bx :=
  ⟨h.g0, h.both, h.cr, h.cb, h.rb, h.below, by have := h.lenC; omega, by have := h.lenR; omega, h.box⟩
theorem Both.drop {p : Nat × Obj} (h : Both w0 w c r Lc Lr k (p :: bx)) : Both w0 w c r Lc Lr k bx := by
  obtain ⟨v, v', hc, hr, h1, h2, h3⟩ := h.both
  exact ⟨h.g0, ⟨v, v', hc, hr, h1, h2, fun q hq => h3 q (List.mem_cons_of_mem _ hq)⟩, h.cr, h.cb, h.rb, h.below, h.lenC, h.lenR, fun q hq => h.box q (List.mem_cons_of_mem _ hq)⟩
theorem Both.boxed (h : Both w0 w c r Lc Lr k bx) (o : Obj) : Both w0 (w.alloc o) c r Lc Lr k ((w.heap.size, o) :: bx) := by
  have h2 := h.keep (below_new (w := w) o)
  obtain ⟨v, v', hc, hr, a1, a2, a3⟩ := h.both
  have hcl := heap_lt hc.head
  have hrl := heap_lt hr.head
  refine ⟨h2.g0, ⟨v, v', hc.below (below_new o), hr.below (below_new o), a1, a2, fun p hq => ?_⟩, h2.cr, h2.cb, h2.rb, h2.below, h2.lenC, h2.lenR, fun p hq => ?_⟩
  · rcases List.mem_cons.1 hq with rfl | hq
    · exact ⟨fun e => by have := RowIs.lt hc.row _ e; simp at this, fun e => by have := RowIs.lt hr.row _ e; simp at this⟩
    · exact a3 p hq
  · rcases List.mem_cons.1 hq with rfl | hq
    · exact ⟨alloc_at w o, by simp; omega, by simp; omega, h.below.size⟩
    · exact h2.box p hq
/-- A call of the program. -/
theorem Both.callC {f : FuncId} {args : Array Value} {P : Ending → Prop} (h : Both w0 w c r Lc Lr k bx)
    (hcall : ∀ v, Ch w c v Lc → Calls Tryd.prog f args w fun e w' => P e ∧ ∃ v1, Ch w' c v1 L1 ∧ Touch (fun b => b = c ∨ v.ownBlock = some b) w w' ∧ (v1.ownBlock = v.ownBlock ∨ ∃ b, v1.ownBlock = some b ∧ w.heap.size ≤ b)) (hk : k ≤ k') (hl : L1.length ≤ k' + 1) :
    Calls Tryd.prog f args w fun e w' => P e ∧ Both w0 w' c r L1 Lr k' bx := by
  obtain ⟨v, v', hc, hr, a1, a2, a3⟩ := h.both
  refine (hcall v hc).mono ?_
  rintro e w' ⟨he, v1, hc1, ht, ho⟩
  have hs := h.below.size
  have hrl := heap_lt hr.head
  refine ⟨he, h.g0, ⟨v1, v', hc1, hr.touch ht ?_ ?_, fun b e => ?_, fun b e => ⟨(a2 b e).1, (a2 b e).2⟩, fun p hp => ⟨fun e => ?_, (a3 p hp).2⟩⟩, h.cr, h.cb, h.rb, h.below.trans (ht.below ?_ hs), hl, by have := h.lenR; omega, fun p hp => ⟨(ht.block _ (heap_lt (h.box p hp).1) ?_).trans (h.box p hp).1, (h.box p hp).2⟩⟩
  · rintro (e | e)
    · exact h.cr e.symm
    · exact (a1 _ e).2.1 rfl
  · rintro g hg (e | e)
    · exact (a2 g hg).2 e
    · exact (a1 g e).2.2 hg
  · rcases ho with e2 | ⟨b2, e2, hb⟩
    · exact a1 b (e2 ▸ e)
    · rw [e] at e2
      injection e2 with e2
      subst e2
      exact ⟨by omega, by omega, fun e3 => by have := RowIs.lt hr.row b e3; omega⟩
  · rcases ho with e2 | ⟨b2, e2, hb⟩
    · exact (a3 p hp).1 (e2 ▸ e)
    · rw [e] at e2
      injection e2 with e2
      have := heap_lt (h.box p hp).1
      omega
  · rintro i (e | e)
    · rw [e]; exact h.cb
    · exact (a1 i e).1
  · rintro (e | e)
    · exact (h.box p hp).2.1 e
    · exact (a3 p hp).1 e
/-- A call of the reference. -/
theorem Both.callR {f : FuncId} {args : Array Value} {P : Ending → Prop} (h : Both w0 w c r Lc Lr k bx)
    (hcall : ∀ v, RAt w r v Lr → Calls Tryd.prog f args w fun e w' => P e ∧ RPost w r v L1 w') (hl : L1.length ≤ k + 1) :
    Calls Tryd.prog f args w fun e w' => P e ∧ Both w0 w' c r Lc L1 k bx := by
  obtain ⟨v, v', hc, hr, a1, a2, a3⟩ := h.both
  refine (hcall v' hr).mono ?_
  rintro e w' ⟨he, v1, hr1, ht, ho⟩
  have hs := h.below.size
  have hcl := heap_lt hc.head
  have hgl := h.g0.lt
  refine ⟨he, h.g0, ⟨v, v1, hc.touch ht (fun e => h.cr e) (fun g hg e => (a1 g hg).2.1 e) (fun e => by have := h.rb; omega), hr1, fun b e => ⟨(a1 b e).1, (a1 b e).2.1, fun e2 => ?_⟩, fun b e => ?_, fun p hp => ⟨(a3 p hp).1, fun e => ?_⟩⟩, h.cr, h.cb, h.rb, h.below.trans (ht.below (fun i e => by rw [e]; exact h.rb) hs), h.lenC, hl, fun p hp => ⟨(ht.block _ (heap_lt (h.box p hp).1) ((h.box p hp).2.2.1)).trans (h.box p hp).1, (h.box p hp).2⟩⟩
  · rcases ho b e2 with e3 | e3
    · exact (a1 b e).2.2 e3
    · have := RowIs.lt hc.row b e
      omega
  · rcases ho b e with e3 | e3
    · exact a2 b e3
    · exact ⟨by omega, by omega⟩
  · rcases ho p.1 e with e3 | e3
    · exact (a3 p hp).2 e3
    · have := heap_lt (h.box p hp).1
      omega
end
end Go.Proofs.YtmaokoekbjjgfaaDoor

namespace Go.Proofs.YtmaokoekbjjgfaaDoor

theorem read_by {L : List Ver} (hR : Ris L) {t : Int} (ho : ¬ okT t = false) {v : Ver} (hv : v ∈ L) (hvt : v.at_ ≤ t) (hmax : ∀ u ∈ L, u.at_ ≤ t → u.at_ ≤ v.at_) :
    (readP L t).2 = if v.at_ = t then (v.n, v.there, 0) else if v.opn then (0, false, 20) else (v.n, v.there, 0) := by
  obtain ⟨j, hj⟩ := List.mem_iff_getElem?.1 hv
  have hc := (cnt_at (t := t) hR j v hj).2 hvt
  obtain ⟨k, v', hk, hk2, h1, h2⟩ := last_of hR (t := t) (by omega)
  have e : v' = v := hR.uniq (List.mem_of_getElem? hk2) hv (by have := h2 v hv hvt; have := hmax v' (List.mem_of_getElem? hk2) h1; omega)
  subst e
  unfold readP
  rw [if_neg ho, if_neg (by omega), show cnt L t - 1 = k from by omega, hk2]
  simp only
  split
  · rfl
  · split
    · rfl
    · rfl
theorem cnt_none {L : List Ver} {t : Int} (h : ∀ u ∈ L, ¬ u.at_ ≤ t) : cnt L t = 0 := by
  unfold cnt
  rw [List.countP_eq_zero]
  intro u hu
  have := h u hu
  simpa using this
theorem none_cnt {L : List Ver} {t : Int} (h : cnt L t = 0) : ∀ u ∈ L, ¬ u.at_ ≤ t := by
  unfold cnt at h
  rw [List.countP_eq_zero] at h
  intro u hu
  have := h u hu
  simpa using this
theorem prune_read {L : List Ver} (hF : Fine L) {b t : Int} (hbt : b ≤ t) : (readP (pruneP L b) t).2 = (readP L t).2 := by
  by_cases ho : okT t = false
  · unfold readP
    rw [if_pos ho, if_pos ho]
  · by_cases hz : cnt L t = 0
    · have h0 : cnt (pruneP L b) t = 0 := cnt_none fun u hu => none_cnt hz u (mem_prune.1 hu).1
      unfold readP
      rw [if_neg ho, if_neg ho, if_pos hz, if_pos h0]
    · obtain ⟨k, v, hk, hk2, h1, h2⟩ := last_of hF.ris (t := t) hz
      have hv := List.mem_of_getElem? hk2
      have hin : v ∈ pruneP L b := by
        refine mem_prune.2 ⟨hv, ?_⟩
        unfold goneV
        rw [decide_eq_false, Bool.and_false]
        rcases lastP_of b L with ⟨h3, _⟩ | ⟨i, u, h3, h4, h5, _⟩
        · have := hF.pos v hv; omega
        · have hu2 : u.opn = false ∧ u.at_ < b := by unfold lowV at h4; simpa using h4
          have := h2 u (List.mem_of_getElem? h3) (by omega)
          omega
      rw [read_by hF.ris ho hv h1 h2, read_by (hF.prune b).ris ho hin h1 (fun u hu => h2 u (mem_prune.1 hu).1)]
end Go.Proofs.YtmaokoekbjjgfaaDoor
