/- The law of orders as it goes: its chain and its two lists in memory, and what each call leaves of them. -/
import Derived.Test.YtmaokoekbjjgfaaDoorZChcB
import Derived.Test.YtmaokoekbjjgfaaDoorZChbB
import Derived.Test.YtmaokoekbjjgfaaDoorZChaU
import Derived.Test.YtmaokoekbjjgfaaDoorZChaR
set_option linter.unusedSimpArgs false
set_option linter.unusedVariables false
set_option linter.unnecessarySimpa false
namespace Go.Proofs.YtmaokoekbjjgfaaDoor
open Go.RowKit Go.Shelf

theorem Ch.touch {S : Nat → Prop} {w w' : World} {c : Nat} {v : Value} {L : List Ver} (h : Ch w c v L) (ht : Touch S w w') (hc : ¬ S c) (hv : ∀ g, v.ownBlock = some g → ¬ S g) (hg : ¬ S 0) : Ch w' c v L :=
  ⟨h.toChAt.touch ht hc hv, h.ris, h.few, h.ok, h.glob.touch ht hg, h.free⟩
/-- The law's own things: the chain c, what was written (wv), what was got (gv), behind k rounds that began at w0; and boxes apart from these. -/
structure Sit (w0 w : World) (c : Nat) (wv gv : Value) (L : List Ver) (wrote got : List GotP) (k : Nat) (bx : List (Nat × Obj)) : Prop where
  g0 : Glob w0
  ch : ∃ v, Ch w c v L ∧ (∀ b, v.ownBlock = some b → w0.heap.size ≤ b ∧ wv.ownBlock ≠ some b ∧ gv.ownBlock ≠ some b) ∧ ∀ p ∈ bx, v.ownBlock ≠ some p.1
  cb : w0.heap.size ≤ c
  cw : wv.ownBlock ≠ some c
  cg : gv.ownBlock ≠ some c
  wt : GIs w wv wrote
  gt : GIs w gv got
  wb : ∀ b, wv.ownBlock = some b → w0.heap.size ≤ b ∧ gv.ownBlock ≠ some b
  gb : ∀ b, gv.ownBlock = some b → w0.heap.size ≤ b
  below : Below w0.heap.size w0 w
  lenL : L.length ≤ k + 1
  lenW : wrote.length ≤ k
  lenG : got.length ≤ k
  box : ∀ p ∈ bx, w.heap[p.1]? = some p.2 ∧ p.1 ≠ c ∧ wv.ownBlock ≠ some p.1 ∧ gv.ownBlock ≠ some p.1 ∧ w0.heap.size ≤ p.1
section
variable {w0 w w' : World} {c : Nat} {wv gv : Value} {L : List Ver} {wrote got : List GotP} {k : Nat} {bx : List (Nat × Obj)}
theorem Sit.keep (h : Sit w0 w c wv gv L wrote got k bx) (hb : Below w.heap.size w w') : Sit w0 w' c wv gv L wrote got k bx := by
  obtain ⟨v, hc, hv⟩ := h.ch
  exact ⟨h.g0, ⟨v, hc.below hb, hv⟩, h.cb, h.cw, h.cg, RowIs.below h.wt hb, RowIs.below h.gt hb, h.wb, h.gb, h.below.trans (hb.mono h.below.size), h.lenL, h.lenW, h.lenG, fun p hp => ⟨(hb.block _ (heap_lt (h.box p hp).1)).trans (h.box p hp).1, (h.box p hp).2⟩⟩
theorem Sit.upto (h : Sit w0 w c wv gv L wrote got k bx) {k' : Nat} (hk : k ≤ k') : Sit w0 w c wv gv L wrote got k' bx :=
  ⟨h.g0, h.ch, h.cb, h.cw, h.cg, h.wt, h.gt, h.wb, h.gb, h.below, by have := h.lenL; omega, by have := h.lenW; omega, by have := h.lenG; omega, h.box⟩
theorem Sit.drop (h : Sit w0 w c wv gv L wrote got k bx) : Sit w0 w c wv gv L wrote got k [] := by
  obtain ⟨v, hc, hv, _⟩ := h.ch
  exact ⟨h.g0, ⟨v, hc, hv, fun p hp => by cases hp⟩, h.cb, h.cw, h.cg, h.wt, h.gt, h.wb, h.gb, h.below, h.lenL, h.lenW, h.lenG, fun p hp => by cases hp⟩
theorem Sit.boxed (h : Sit w0 w c wv gv L wrote got k bx) (o : Obj) : Sit w0 (w.alloc o) c wv gv L wrote got k ((w.heap.size, o) :: bx) := by
  have h2 := h.keep (below_new (w := w) o)
  obtain ⟨v, hc, hv, hp⟩ := h.ch
  have hcl := heap_lt hc.head
  refine ⟨h2.g0, ⟨v, hc.below (below_new o), hv, fun p hq => ?_⟩, h2.cb, h2.cw, h2.cg, h2.wt, h2.gt, h2.wb, h2.gb, h2.below, h2.lenL, h2.lenW, h2.lenG, fun p hq => ?_⟩
  · rcases List.mem_cons.1 hq with rfl | hq
    · intro e
      have := RowIs.lt hc.row _ e
      simp at this
    · exact hp p hq
  · rcases List.mem_cons.1 hq with rfl | hq
    · exact ⟨alloc_at w o, by simp; omega, fun e => by have := RowIs.lt h.wt _ e; simp at this, fun e => by have := RowIs.lt h.gt _ e; simp at this, h.below.size⟩
    · exact h2.box p hq
theorem Sit.setbox {b : Nat} {cs : Array Value} {T : TypeId} (h : Sit w0 w c wv gv L wrote got k ((b, .cells cs T (0, 0)) :: bx)) (hne : ∀ p ∈ bx, p.1 ≠ b) (i : Nat) (x : Value) : Sit w0 (w.setCell ⟨b, i, none⟩ x) c wv gv L wrote got k ((b, .cells (cs.setIfInBounds i x) T (0, 0)) :: bx) := by
  have hb := h.box _ (List.mem_cons_self ..)
  have ht : Touch (fun j => j = b) w (w.setCell ⟨b, i, none⟩ x) := Touch.setCell (S := fun j => j = b) (Touch.refl _ w) ⟨b, i, none⟩ (fun _ => rfl) x
  obtain ⟨v, hc, hv, hp⟩ := h.ch
  have hg := h.g0.lt
  refine ⟨h.g0, ⟨v, hc.touch ht (fun e => hb.2.1 e.symm) (fun g e e2 => hp _ (List.mem_cons_self ..) (e2 ▸ e)) (fun e => ?_), hv, fun p hq => ?_⟩, h.cb, h.cw, h.cg, RowIs.touch h.wt ht fun g e e2 => hb.2.2.1 (e2 ▸ e), RowIs.touch h.gt ht fun g e e2 => hb.2.2.2.1 (e2 ▸ e), h.wb, h.gb, h.below.trans (ht.below (fun j e => by rw [e]; exact hb.2.2.2.2) h.below.size), h.lenL, h.lenW, h.lenG, fun p hq => ?_⟩
  · have := hb.2.2.2.2
    simp only at this
    omega
  · rcases List.mem_cons.1 hq with rfl | hq
    · exact hp (b, .cells cs T (0, 0)) (List.mem_cons_self ..)
    · exact hp _ (List.mem_cons_of_mem _ hq)
  · rcases List.mem_cons.1 hq with rfl | hq
    · exact ⟨set_at hb.1 i x, hb.2⟩
    · have hq2 := h.box _ (List.mem_cons_of_mem _ hq)
      exact ⟨(ht.block _ (heap_lt hq2.1) (fun e => hne p hq e)).trans hq2.1, hq2.2⟩
theorem sit_none {v : Value} (hg : Glob w0) (h : Ch w c v L) (hb : Below w0.heap.size w0 w) (hc : w0.heap.size ≤ c) (hv : ∀ b, v.ownBlock = some b → w0.heap.size ≤ b) (hl : L.length ≤ 1) : Sit w0 w c (.slice none 0 0) (.slice none 0 0) L [] [] 0 [] :=
  ⟨hg, ⟨v, h, (fun b e => ⟨hv b e, (fun e => by cases e), (fun e => by cases e)⟩), fun p hp => by cases hp⟩, hc, (fun e => by cases e), (fun e => by cases e), GIs.nil _, GIs.nil _, (fun b e => by cases e), (fun b e => by cases e), hb, hl, Nat.le_refl _, Nat.le_refl _, fun p hp => by cases hp⟩
/-- The chain was turned by a call. -/
theorem Sit.turn {v v' : Value} {L' : List Ver} {k' : Nat} (h : Sit w0 w c wv gv L wrote got k bx) (hv : Ch w c v L) (hvb : ∀ b, v.ownBlock = some b → w0.heap.size ≤ b ∧ wv.ownBlock ≠ some b ∧ gv.ownBlock ≠ some b) (hvx : ∀ p ∈ bx, v.ownBlock ≠ some p.1)
    (hc : Ch w' c v' L') (ht : Touch (fun b => b = c ∨ v.ownBlock = some b) w w') (ho : v'.ownBlock = v.ownBlock ∨ ∃ b, v'.ownBlock = some b ∧ w.heap.size ≤ b) (hk : k ≤ k') (hl : L'.length ≤ k' + 1) : Sit w0 w' c wv gv L' wrote got k' bx := by
  have hs := h.below.size
  refine ⟨h.g0, ⟨v', hc, fun b e => ?_, fun p hp e => ?_⟩, h.cb, h.cw, h.cg, RowIs.touch h.wt ht ?_, RowIs.touch h.gt ht ?_, h.wb, h.gb, h.below.trans (ht.below ?_ hs), hl, Nat.le_trans h.lenW hk, Nat.le_trans h.lenG hk, fun p hp => ⟨(ht.block _ (heap_lt (h.box p hp).1) ?_).trans (h.box p hp).1, (h.box p hp).2⟩⟩
  · rcases ho with e2 | ⟨b2, e2, hb⟩
    · exact hvb b (e2 ▸ e)
    · rw [e] at e2
      injection e2 with e2
      subst e2
      exact ⟨by omega, fun e3 => by have := RowIs.lt h.wt b e3; omega, fun e3 => by have := RowIs.lt h.gt b e3; omega⟩
  · rcases ho with e2 | ⟨b2, e2, hb⟩
    · exact hvx p hp (e2 ▸ e)
    · rw [e] at e2
      injection e2 with e2
      have := heap_lt (h.box p hp).1
      omega
  · rintro g hg (e | e)
    · exact h.cw (e ▸ hg)
    · exact (hvb g e).2.1 hg
  · rintro g hg (e | e)
    · exact h.cg (e ▸ hg)
    · exact (hvb g e).2.2 hg
  · rintro i (e | e)
    · rw [e]; exact h.cb
    · exact (hvb i e).1
  · rintro (e | e)
    · exact (h.box p hp).2.1 e
    · exact hvx p hp e
theorem Sit.read (h : Sit w0 w c wv gv L wrote got k bx) {t : Int} (ht : InR64 t) :
    Calls Tryd.prog 14 #[.pointer (some ⟨c, 0, none⟩), .int .i64 t] w fun e w' => e = .returned (.tuple #[.int .i64 (readP L t).2.1, .bool (readP L t).2.2.1, .int .i64 (readP L t).2.2.2]) ∧ Sit w0 w' c wv gv (readP L t).1 wrote got k bx := by
  obtain ⟨v, hc, hv, hx⟩ := h.ch
  refine (Read_any hc ht).mono ?_
  rintro e w' ⟨rfl, h2, h3⟩
  exact ⟨rfl, h.turn hc hv hx h2 (h3.mono fun i _ e => .inr e) (.inl rfl) (Nat.le_refl _) (by rw [(readP_ris hc.ris).2]; exact h.lenL)⟩
theorem Sit.write (h : Sit w0 w c wv gv L wrote got k bx) (hk : k ≤ 1000) {t n : Int} {th : Bool} (ht : InR64 t) (hn : InR64 n) :
    Calls Tryd.prog 16 #[.pointer (some ⟨c, 0, none⟩), .int .i64 t, .int .i64 n, .bool th] w fun e w' => e = .returned (.int .i64 (writeP L t n th).2) ∧ Sit w0 w' c wv gv (writeP L t n th).1 wrote got (k + 1) bx := by
  obtain ⟨v, hc, hv, hx⟩ := h.ch
  have hl := h.lenL
  refine (Write_all hc ht hn (by omega)).mono ?_
  rintro e w' ⟨v', rfl, h2, h3, h4⟩
  exact ⟨rfl, h.turn hc hv hx h2 h3 h4 (Nat.le_succ _) (by have := (writeP_ris (t := t) (n := n) (there := th) hc.ris).2; omega)⟩
theorem commitP_len (L : List Ver) (t : Int) : (commitP L t).1.length = L.length := by
  unfold commitP
  rcases openP_cases (L := L) t with e | ⟨k, v, e, _⟩
  · rw [e]
  · rw [e]; simp
theorem abortP_len (L : List Ver) (t : Int) : (abortP L t).1.length ≤ L.length := by
  unfold abortP
  rcases openP_cases (L := L) t with e | ⟨k, v, e, hv, _⟩
  · rw [e]; exact Nat.le_refl _
  · rw [e]
    have := (List.getElem?_eq_some_iff.1 hv).1
    show (L.eraseIdx k).length ≤ L.length
    rw [List.length_eraseIdx]
    split <;> omega
theorem Sit.commit (h : Sit w0 w c wv gv L wrote got k bx) (t : Int) :
    Calls Tryd.prog 18 #[.pointer (some ⟨c, 0, none⟩), .int .i64 t] w fun e w' => e = .returned (.bool (commitP L t).2) ∧ Sit w0 w' c wv gv (commitP L t).1 wrote got k bx := by
  obtain ⟨v, hc, hv, hx⟩ := h.ch
  refine (Commit_any hc).mono ?_
  rintro e w' ⟨rfl, h2, h3⟩
  exact ⟨rfl, h.turn hc hv hx h2 (h3.mono fun i _ e => .inr e) (.inl rfl) (Nat.le_refl _) (by rw [commitP_len]; exact h.lenL)⟩
theorem Sit.abort (h : Sit w0 w c wv gv L wrote got k bx) (t : Int) :
    Calls Tryd.prog 19 #[.pointer (some ⟨c, 0, none⟩), .int .i64 t] w fun e w' => e = .returned (.bool (abortP L t).2) ∧ Sit w0 w' c wv gv (abortP L t).1 wrote got k bx := by
  obtain ⟨v, hc, hv, hx⟩ := h.ch
  refine (Abort_any hc).mono ?_
  rintro e w' ⟨v', rfl, h2, h3, h4⟩
  exact ⟨rfl, h.turn hc hv hx h2 h3 (.inl h4) (Nat.le_refl _) (Nat.le_trans (abortP_len L t) h.lenL)⟩
/-- Another list of what was written, in new memory. -/
theorem Sit.setW {v1 : Value} {wrote' : List GotP} (h : Sit w0 w c wv gv L wrote got k bx) (hb : Below w.heap.size w w') (hv : GIs w' v1 wrote') (ho : ∀ b, v1.ownBlock = some b → w.heap.size ≤ b) (hl : wrote'.length ≤ k) : Sit w0 w' c v1 gv L wrote' got k bx := by
  have hs := h.below.size
  obtain ⟨v, hc, hvb, hx⟩ := h.ch
  have h2 := h.keep hb
  refine ⟨h.g0, ⟨v, hc.below hb, (fun b e => ⟨(hvb b e).1, fun e2 => ?_, (hvb b e).2.2⟩), hx⟩, h.cb, fun e => ?_, h.cg, hv, h2.gt, fun b e => ⟨by have := ho b e; omega, fun e2 => ?_⟩, h.gb, h2.below, h.lenL, hl, h.lenG, fun p hp => ⟨(h2.box p hp).1, (h2.box p hp).2.1, fun e => ?_, (h2.box p hp).2.2.2⟩⟩
  · have := ho b e2
    have := RowIs.lt hc.row b e
    omega
  · have := ho c e
    have := heap_lt hc.head
    omega
  · have := ho b e
    have := RowIs.lt h.gt b e2
    omega
  · have := ho _ e
    have := heap_lt (h.box p hp).1
    omega
/-- What was got has one more. -/
theorem Sit.setG {v1 : Value} {got' : List GotP} (h : Sit w0 w c wv gv L wrote got k bx) (ht : Touch (fun b => gv.ownBlock = some b) w w') (hv : GIs w' v1 got') (ho : ∀ b, v1.ownBlock = some b → gv.ownBlock = some b ∨ w.heap.size ≤ b) (hl : got'.length ≤ k) : Sit w0 w' c wv v1 L wrote got' k bx := by
  have hs := h.below.size
  obtain ⟨v, hc, hvb, hx⟩ := h.ch
  have hgl := h.g0.lt
  refine ⟨h.g0, ⟨v, hc.touch ht (fun e => h.cg e) (fun g e e2 => (hvb g e).2.2 e2) (fun e => ?_), (fun b e => ⟨(hvb b e).1, (hvb b e).2.1, fun e2 => ?_⟩), hx⟩, h.cb, h.cw, fun e => ?_, RowIs.touch h.wt ht fun g e e2 => (h.wb g e).2 e2, hv, fun b e => ⟨(h.wb b e).1, fun e2 => ?_⟩, fun b e => ?_, h.below.trans (ht.below (fun i e => h.gb i e) hs), h.lenL, h.lenW, hl, fun p hp => ⟨(ht.block _ (heap_lt (h.box p hp).1) (h.box p hp).2.2.2.1).trans (h.box p hp).1, (h.box p hp).2.1, (h.box p hp).2.2.1, fun e => ?_, (h.box p hp).2.2.2.2⟩⟩
  · have := h.gb _ e
    omega
  · rcases ho b e2 with e3 | e3
    · exact (hvb b e).2.2 e3
    · have := RowIs.lt hc.row b e
      omega
  · rcases ho c e with e3 | e3
    · exact h.cg e3
    · have := heap_lt hc.head
      omega
  · rcases ho b e2 with e3 | e3
    · exact (h.wb b e).2 e3
    · have := RowIs.lt h.wt b e
      omega
  · rcases ho b e with e3 | e3
    · exact h.gb b e3
    · omega
  · rcases ho _ e with e3 | e3
    · exact (h.box p hp).2.2.2.1 e3
    · have := heap_lt (h.box p hp).1
      omega
end
/-- Calls that a law was given: 4 cells each. -/
def OpsIs (w : World) (v : Value) (m : Nat) : Prop := ∃ A cap, v = .slice A m cap ∧ m ≤ cap ∧ cap ≤ maxLen ∧ ∀ i, i < m → ∃ (a : Addr) (kd t n : Int) (th : Bool), A = some a ∧ a.block < w.heap.size ∧ w.cell? (a.add (i * 4)) = some (.int .i64 kd) ∧ w.cell? ((a.add (i * 4)).add 1) = some (.int .i64 t) ∧ w.cell? ((a.add (i * 4)).add 2) = some (.int .i64 n) ∧ w.cell? ((a.add (i * 4)).add 3) = some (.bool th) ∧ InR64 t ∧ InR64 n
end Go.Proofs.YtmaokoekbjjgfaaDoor
