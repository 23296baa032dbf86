/- A law's own history; awake. -/
import Derived.Test.YtoidfkcecggjfaaDoorZValI
set_option linter.unusedSimpArgs false
set_option linter.unusedVariables false
set_option linter.unnecessarySimpa false
namespace Go.Proofs.YtoidfkcecggjfaaDoor
open Go.RowKit Go.Shelf

/-- A history of a law that began at w0; boxes apart from it. -/
structure Run (w0 w : World) (h F : Nat) (C : List (List K)) (bx : List (Nat × Obj)) : Prop where
  g0 : Glob w0
  hist : ∃ v vs, HH w h v F vs C ∧ (∀ b, v.ownBlock = some b → w0.heap.size ≤ b) ∧ (∀ x ∈ vs, ∀ b, x.ownBlock = some b → w0.heap.size ≤ b) ∧ ∀ p ∈ bx, v.ownBlock ≠ some p.1
  hb : w0.heap.size ≤ h
  below : Below w0.heap.size w0 w
  box : ∀ p ∈ bx, w.heap[p.1]? = some p.2 ∧ p.1 ≠ h ∧ w0.heap.size ≤ p.1
section
variable {w0 w w' : World} {h F : Nat} {C : List (List K)} {bx : List (Nat × Obj)}
theorem Run.keep (hr : Run w0 w h F C bx) (hb : Below w.heap.size w w') : Run w0 w' h F C bx := by
  obtain ⟨v, vs, a, b, c, d⟩ := hr.hist
  exact ⟨hr.g0, ⟨v, vs, a.below hb, b, c, d⟩, hr.hb, hr.below.trans (hb.mono hr.below.size), fun p hp => ⟨(hb.block _ (heap_lt (hr.box p hp).1)).trans (hr.box p hp).1, (hr.box p hp).2⟩⟩
theorem Run.boxed (hr : Run w0 w h F C bx) (o : Obj) : Run w0 (w.alloc o) h F C ((w.heap.size, o) :: bx) := by
  have h2 := hr.keep (below_new (w := w) o)
  obtain ⟨v, vs, a, b, c, d⟩ := hr.hist
  have hl := heap_lt a.head
  refine ⟨hr.g0, ⟨v, vs, a.below (below_new o), b, c, fun p hp => ?_⟩, hr.hb, h2.below, fun p hp => ?_⟩
  · rcases List.mem_cons.1 hp with rfl | hp
    · exact fun e => by have := RowIs.lt a.row _ e; simp at this
    · exact d p hp
  · rcases List.mem_cons.1 hp with rfl | hp
    · exact ⟨alloc_at w o, by simp; omega, hr.below.size⟩
    · exact h2.box p hp
theorem Run.drop {p : Nat × Obj} (hr : Run w0 w h F C (p :: bx)) : Run w0 w h F C bx := by
  obtain ⟨v, vs, a, b, c, d⟩ := hr.hist
  exact ⟨hr.g0, ⟨v, vs, a, b, c, fun q hq => d q (List.mem_cons_of_mem _ hq)⟩, hr.hb, hr.below, fun q hq => hr.box q (List.mem_cons_of_mem _ hq)⟩
theorem run_new {v : Value} {vs : List Value} (hG : Glob w0) (hh : HH w h v F vs C) (hb : Below w0.heap.size w0 w) (hc : w0.heap.size ≤ h) (hv : ∀ b, v.ownBlock = some b → w0.heap.size ≤ b) (hvs : ∀ x ∈ vs, ∀ b, x.ownBlock = some b → w0.heap.size ≤ b) : Run w0 w h F C [] :=
  ⟨hG, ⟨v, vs, hh, hv, hvs, fun p hp => by cases hp⟩, hc, hb, fun p hp => by cases hp⟩
theorem Run.add {kv : Value} {keys : List K} (hr : Run w0 w h F C bx) (hk : RowIs w 1 kv keys.length (strs keys)) (hl : keys.length ≤ 1000) (hf : F + C.length + 1 ≤ 100000) :
    Calls Tryd.prog 12 #[.pointer (some ⟨h, 0, none⟩), kv] w fun e w' => e = .returned (.tuple #[.int .i64 ((F : Int) + (C.length : Int) + 1), .int .i64 0]) ∧ Run w0 w' h F (C ++ [rises keys]) bx := by
  obtain ⟨v, vs, a, b, c, d⟩ := hr.hist
  refine (Add_any a hk hl hf).mono ?_
  rintro e w' ⟨rfl, v', vs', h1, ht, h3, h4⟩
  have hs := hr.below.size
  refine ⟨rfl, hr.g0, ⟨v', vs', h1, fun q e => ?_, fun x hx q e => ?_, fun p hp e => ?_⟩, hr.hb, hr.below.trans (ht.below (fun i e => ?_) hs), fun p hp => ⟨(ht.block _ (heap_lt (hr.box p hp).1) (fun e => ?_)).trans (hr.box p hp).1, (hr.box p hp).2⟩⟩
  · rcases h3 q e with e2 | e2
    · exact b q e2
    · omega
  · rcases h4 x hx q e with ⟨y, hy, e2⟩ | e2
    · exact c y hy q e2
    · omega
  · rcases h3 p.1 e with e2 | e2
    · exact d p hp e2
    · have := heap_lt (hr.box p hp).1
      omega
  · rcases e with e | e
    · rw [e]; exact hr.hb
    · exact b i e
  · rcases e with e | e
    · exact (hr.box p hp).2.1 e
    · exact d p hp e
theorem Run.forget {lo : Int} (hr : Run w0 w h F C bx) (hlo : lo ≤ 9223372036854775807) :
    Calls Tryd.prog 15 #[.pointer (some ⟨h, 0, none⟩), .int .i64 lo] w fun e w' => e = .returned (.int .i64 (forgetN F C.length lo)) ∧ Run w0 w' h (F + forgetN F C.length lo) (C.drop (forgetN F C.length lo)) bx := by
  obtain ⟨v, vs, a, b, c, d⟩ := hr.hist
  refine (Forget_any a hlo).mono ?_
  rintro e w' ⟨rfl, v', h1, ht, h3⟩
  have hs := hr.below.size
  refine ⟨rfl, hr.g0, ⟨v', _, h1, fun q e => b q (h3 ▸ e), fun x hx q e => c x (List.mem_of_mem_drop hx) q e, fun p hp e => d p hp (h3 ▸ e)⟩, hr.hb, hr.below.trans (ht.below (fun i e => ?_) hs), fun p hp => ⟨(ht.block _ (heap_lt (hr.box p hp).1) (fun e => ?_)).trans (hr.box p hp).1, (hr.box p hp).2⟩⟩
  · rcases e with e | e
    · rw [e]; exact hr.hb
    · exact b i e
  · rcases e with e | e
    · exact (hr.box p hp).2.1 e
    · exact d p hp e
theorem Run.check {rv : Value} {reads : List K} {since : Int} (hr : Run w0 w h F C bx) (hk : RowIs w 1 rv reads.length (strs reads)) (hl : reads.length ≤ 1000000) :
    Calls Tryd.prog 10 #[.pointer (some ⟨h, 0, none⟩), .int .i64 since, rv] w fun e w' => e = .returned (.int .i64 (checkR F C since reads)) ∧ Run w0 w' h F C bx ∧ Below w.heap.size w w' := by
  obtain ⟨v, vs, a, _⟩ := hr.hist
  refine (Check_any a hk hl).mono ?_
  rintro e w' ⟨rfl, hb⟩
  exact ⟨rfl, hr.keep hb, hb⟩
theorem Run.first {rv : Value} {reads : List K} {since : Int} (hr : Run w0 w h F C bx) (hk : RowIs w 1 rv reads.length (strs reads)) (hl : reads.length ≤ 1000000) :
    Calls Tryd.prog 14 #[.pointer (some ⟨h, 0, none⟩), .int .i64 since, rv] w fun e w' => e = .returned (.tuple #[.int .i64 (firstR F C since reads).1, .bool (decide (0 < (firstR F C since reads).1))]) ∧ Run w0 w' h F C bx := by
  obtain ⟨v, vs, a, _⟩ := hr.hist
  refine (First_any a hk hl).mono ?_
  rintro e w' ⟨rfl, hb⟩
  exact ⟨rfl, hr.keep hb⟩
theorem Run.now (hr : Run w0 w h F C bx) :
    Calls Tryd.prog 8 #[.pointer (some ⟨h, 0, none⟩)] w fun e w' => e = .returned (.int .i64 ((F : Int) + (C.length : Int))) ∧ Run w0 w' h F C bx ∧ Below w.heap.size w w' := by
  obtain ⟨v, vs, a, _⟩ := hr.hist
  refine (now_any a.toHistAt a.few).mono ?_
  rintro e w' ⟨rfl, rfl⟩
  exact ⟨rfl, hr.keep (below_drewN (Below.refl _ _) 1), below_drewN (Below.refl _ _) 1⟩
theorem Run.floor (hr : Run w0 w h F C bx) :
    Calls Tryd.prog 9 #[.pointer (some ⟨h, 0, none⟩)] w fun e w' => e = .returned (.int .i64 F) ∧ Run w0 w' h F C bx := by
  obtain ⟨v, vs, a, _⟩ := hr.hist
  refine (floor_any a.toHistAt).mono ?_
  rintro e w' ⟨rfl, rfl⟩
  exact ⟨rfl, hr⟩
end
theorem row_lit {w : World} {b : Nat} {l : List K} {cs : Array Value} {T : TypeId} (h : w.heap[b]? = some (.cells cs T (0, 0))) (hc : cs = (strs l).toArray) (hl : l.length ≤ 1000000) : RowIs w 1 (.slice (some ⟨b, 0, none⟩) l.length l.length) l.length (strs l) := by
  subst hc
  refine .inr ⟨b, l.length, rfl, by rw [strs_len]; omega, Nat.le_refl _, heap_lt h, by rw [strs_len]; omega, by unfold maxLen; omega, fun j u hj => ?_, fun j hj => ⟨?_, free0 h j⟩⟩
  · rw [cell_of h j]
    simpa using hj
  · rw [cell_of h j, Array.getElem?_eq_getElem (by simpa [strs_len] using hj)]
    rfl
theorem rises_eq {l : List K} (h : l.Pairwise (· < ·)) : rises l = l := rises_uniq (rises_lt l) h (fun x => mem_rises)
def ka : K := [97]
def kb : K := [98]
def kc : K := [99]
def va0 : List (List K) := [[ka, kb], [kc]]
theorem va_ab : rises [ka, kb] = [ka, kb] := rises_eq (by decide)
theorem va_c : rises [kc] = [kc] := rises_eq (by decide)
theorem va_f : firstR 0 va0 0 [ka] = (1, []) := by rfl
theorem va_c1 : checkR 0 va0 1 [ka, kb] = 0 := by rfl
theorem va_c2 : checkR 0 va0 1 [kc] = 23 := by rfl
theorem va_n : forgetN 0 2 2 = 1 := by rfl
theorem va_c3 : checkR 1 [[kc]] 0 [] = 22 := by rfl
theorem va_c4 : checkR 1 [[kc]] 1 [] = 0 := by rfl
end Go.Proofs.YtoidfkcecggjfaaDoor
