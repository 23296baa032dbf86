/- The tape: what a law does with a tape of its own. -/
import Derived.Test.YtnegnokielmgkaaGreatDoorZTapO
import Derived.Test.YtnegnokielmgkaaGreatDoorZTapK
import Derived.Test.YtnegnokielmgkaaGreatDoorZCrcF
set_option linter.unusedSimpArgs false
set_option linter.unusedVariables false
set_option linter.unnecessarySimpa false
namespace Go.Proofs.YtnegnokielmgkaaGreatDoor
open Go.RowKit
open Go.Maps (Keyed)

abbrev Abs := List (Int × List UInt8 × Nat)
/-- A tape of the law's own. -/
structure Awk (w : World) (t : Nat) (room : Nat) (A : Abs) (T : Tp) (W : World) : Prop where
  tape : TapeAt W t T
  room : T.room = room
  fused : T.fused = false
  down : T.down = false
  abs : abs T.L = A
  glob : Glob w
  new : ∀ k ∈ T.blocks t, w.heap.size ≤ k
  below : Below w.heap.size w W
section
variable {w W : World} {t room : Nat} {A : Abs} {T : Tp}
theorem Awk.keep (h : Awk w t room A T W) {W' : World} (hb : Below W.heap.size W W') : Awk w t room A T W' := ⟨h.tape.below hb, h.room, h.fused, h.down, h.abs, h.glob, h.new, h.below.trans (hb.mono h.below.size)⟩
theorem Awk.globW (h : Awk w t room A T W) : Glob W := h.glob.below h.below
theorem Awk.spent (h : Awk w t room A T W) : spent T = false := by unfold Go.Proofs.YtnegnokielmgkaaGreatDoor.spent; rw [h.fused]; rfl
theorem Awk.burnt (h : Awk w t room A T W) : burnt T = T := by unfold Go.Proofs.YtnegnokielmgkaaGreatDoor.burnt; rw [if_neg (by rw [h.fused]; decide)]
theorem Awk.far (h : Awk w t room A T W) : 0 ∉ T.blocks t := fun hk => by have := h.new _ hk; have := h.glob.lt; omega
theorem Awk.ready (h : Awk w t room A T W) {seg : Int} (hn : nameB seg = true) : readyE T seg = 0 := by unfold readyE; rw [hn, h.down]; rfl
theorem Awk.used (h : Awk w t room A T W) : used T.L = sumA A := by rw [← h.abs]; exact (sumA_abs _).symm
theorem Awk.len (h : Awk w t room A T W) : T.L.length = A.length := by rw [← h.abs]; simp [Go.Proofs.YtnegnokielmgkaaGreatDoor.abs]
theorem Awk.at (h : Awk w t room A T W) {j : Nat} {n : Int} {b : List UInt8} {s : Nat} (hj : A[j]? = some (n, b, s)) : ∃ e, T.L[j]? = some e ∧ e.n = n ∧ e.b = b ∧ e.s = s := by
  rw [← h.abs] at hj
  unfold Go.Proofs.YtnegnokielmgkaaGreatDoor.abs at hj
  rw [List.getElem?_map] at hj
  cases he : T.L[j]? with
  | none => rw [he] at hj; cases hj
  | some e =>
    rw [he] at hj
    have := Option.some.inj hj
    injection this with h1 h2
    injection h2 with h2 h3
    exact ⟨e, rfl, h1, h2, h3⟩
theorem Awk.miss (h : Awk w t room A T W) {n : Int} (hn : ∀ x ∈ A, x.1 ≠ n) : ∀ e ∈ T.L, e.n ≠ n := fun e he => hn (e.n, e.b, e.s) (by rw [← h.abs]; exact List.mem_map.2 ⟨e, he, rfl⟩)
end
theorem pis_lit {w : World} {g0 g1 n : Nat} {l : List UInt8} {cs : Array Value} {fr : Nat × Nat} (hcs : (bc l).toArray = cs) (hn : l.length = n) (hl : n ≤ 1000) (h0 : w.heap[g0]? = some (.cells cs 5 fr)) (h1 : w.heap[g1]? = some (.cells #[.slice (some ⟨g0, 0, none⟩) n n] 32 (0, 0))) :
    PIs w (.slice (some ⟨g1, 0, none⟩) 1 1) [l] := by
  subst hcs
  subst hn
  refine ⟨_, _, rfl, Nat.le_refl _, by unfold maxLen; omega, fun i m hi => ?_⟩
  match i with
  | i + 1 => simp at hi
  | 0 =>
    obtain rfl : l = m := by simpa using hi
    refine ⟨_, _, rfl, heap_lt h1, by rw [add0, cell_of h1]; rfl, _, _, rfl, Nat.le_refl _, by unfold maxLen; omega, fun i b hi => ⟨_, rfl, heap_lt h0, ?_⟩⟩
    rw [add0, cell_of h0]
    simpa using bc_some hi
/-- The world when a literal stands as the one part of an Append. -/
def litW (W : World) (cs : Array Value) (fr : Nat × Nat) (n : Nat) : World := (W.alloc (.cells cs 5 fr)).alloc (.cells #[.slice (some ⟨W.heap.size, 0, none⟩) n n] 32)
theorem litW_below (W : World) (cs : Array Value) (fr : Nat × Nat) (n : Nat) : Below W.heap.size W (litW W cs fr n) := (below_new _).trans ((below_new _).mono (by rw [asz]; omega))
theorem litW_pis {W w' : World} {l : List UInt8} {cs : Array Value} {fr : Nat × Nat} {n : Nat} (hcs : (bc l).toArray = cs) (hn : l.length = n) (hl : n ≤ 1000) (h0 : w'.heap[W.heap.size]? = (litW W cs fr n).heap[W.heap.size]?) (h1 : w'.heap[W.heap.size + 1]? = (litW W cs fr n).heap[W.heap.size + 1]?) :
    PIs w' (.slice (some ⟨W.heap.size + 1, 0, none⟩) 1 1) [l] := by
  refine pis_lit (g0 := W.heap.size) (cs := cs) (fr := fr) hcs hn hl ?_ ?_
  · rw [h0]; unfold litW
    rw [Below.heap_alloc _ _ _ (by rw [asz]; omega)]
    exact alloc_at _ _
  · rw [h1]; unfold litW
    have := alloc_at (W.alloc (.cells cs 5 fr)) (.cells #[.slice (some ⟨W.heap.size, 0, none⟩) n n] 32)
    rw [asz] at this
    exact this
section
variable {w W : World} {t room : Nat} {A : Abs} {T : Tp}
theorem awk_new (hG : Glob w) {n : Nat} (hn : n ≤ 1048576) : Calls Tryz.prog 9 #[.int .i64 (n : Int)] w fun e w' => e = .returned (.tuple #[.pointer (some ⟨w.heap.size, 0, none⟩), .int .i64 0]) ∧ Awk w w.heap.size n [] (newT n) w' :=
  (new_ok hn).mono fun e w' ⟨h1, h2, h3⟩ => ⟨h1, h2, rfl, rfl, rfl, rfl, hG, (fun k hk => by
    rcases mem_blocks.1 hk with h | h | ⟨e, he, _⟩
    · omega
    · cases h
    · cases he), h3⟩
theorem awk_append (h : Awk w t room A T W) {seg : Int} (hn : nameB seg = true) (h64 : A.length < 64) {v : Value} {Av : Option Addr} {nv cv : Nat} (ev : v = .slice Av nv cv) {ls : List (List UInt8)} (hu : sumA A + ls.flatten.length ≤ room) (hP : ∀ w', Touch (fun k => k ∈ T.blocks t) W w' → PIs w' v ls) :
    Calls Tryz.prog 22 #[.pointer (some ⟨t, 0, none⟩), .int .i64 seg, v] W fun e w' => e = .returned (.int .i64 0) ∧ ∃ T', Awk w t room (appA A seg ls.flatten) T' w' := by
  subst ev
  have hr := h.tape.room
  rw [h.room] at hr
  refine (append_ok h.globW h.tape (h.ready hn) (fun W' hW' => fits_few (h.tape.below hW') (hP W' (.of_below hW')) (by omega) (by rw [h.used, h.room]; omega) (by rw [h.len]; exact h64)) hn (.inl (by rw [h.len]; exact h64)) (ls := ls) (by rw [h.used]; omega) h.spent h.far hP).mono ?_
  rintro e w' ⟨rfl, T', h1, h2, h3, h4, h5⟩
  rw [h.burnt] at h2
  have hb : Below w.heap.size W w' := h4.below h.new h.below.size
  refine ⟨rfl, T', h1, h2.room.trans h.room, h2.fused.trans h.fused, h2.down.trans h.down, by rw [h3, h.abs], h.glob, fun k hk => ?_, h.below.trans hb⟩
  rcases h5 k hk with h6 | h6
  · exact h.new k h6
  · have := h.below.size; omega
theorem awk_lit (h : Awk w t room A T W) {seg : Int} (hn : nameB seg = true) (h64 : A.length < 64) {l : List UInt8} {cs : Array Value} {fr : Nat × Nat} {n : Nat} (hcs : (bc l).toArray = cs) (hl : l.length = n) (hm : n ≤ 1000) (hu : sumA A + n ≤ room) :
    Calls Tryz.prog 22 #[.pointer (some ⟨t, 0, none⟩), .int .i64 seg, .slice (some ⟨W.heap.size + 1, 0, none⟩) 1 1] (litW W cs fr n) fun e w' => e = .returned (.int .i64 0) ∧ ∃ T', Awk w t room (appA A seg l) T' w' := by
  have hA := h.keep (litW_below W cs fr n)
  have hs : (litW W cs fr n).heap.size = W.heap.size + 1 + 1 := by unfold litW; rw [asz, asz]
  have hN : ∀ k, W.heap.size ≤ k → k ∉ T.blocks t := fun k hk hk2 => by have := h.tape.lt k hk2; omega
  have := awk_append hA hn h64 (v := .slice (some ⟨W.heap.size + 1, 0, none⟩) 1 1) rfl (ls := [l]) (by simp; omega) (fun w' ht => litW_pis (fr := fr) hcs hl hm (ht.block _ (by omega) (hN _ (Nat.le_refl _))) (ht.block _ (by omega) (hN _ (by omega))))
  rw [show [l].flatten = l from by simp] at this
  exact this
def syncA (A : Abs) (n : Int) : Abs := A.map fun x => if x.1 = n then (x.1, x.2.1, x.2.1.length) else x
theorem awk_sync (h : Awk w t room A T W) {seg : Int} (hn : nameB seg = true) {j : Nat} {b : List UInt8} {s : Nat} (hj : A[j]? = some (seg, b, s)) :
    Calls Tryz.prog 44 #[.pointer (some ⟨t, 0, none⟩), .int .i64 seg] W fun e w' => e = .returned (.int .i64 0) ∧ ∃ T', Awk w t room (syncA A seg) T' w' := by
  obtain ⟨e, hj, he, _, _⟩ := h.at hj
  refine (sync_ok h.globW h.tape (h.ready hn) hj he h.spent h.far).mono ?_
  rintro x w' ⟨rfl, h1, h4⟩
  unfold syncT at h1
  rw [h.burnt] at h1
  have hb : Below w.heap.size W w' := h4.below h.new h.below.size
  refine ⟨rfl, _, h1, h.room, h.fused, h.down, ?_, h.glob, fun k hk => ?_, h.below.trans hb⟩
  · show Go.Proofs.YtnegnokielmgkaaGreatDoor.abs (T.L.set j { e with s := e.b.length }) = _
    rw [abs_set (n := seg) hj he (fun i a hi ha => h.tape.one hi hj (by rw [ha, he])) (fun x => (x.1, x.2.1, x.2.1.length)) rfl, h.abs]
    rfl
  · refine h.new k ?_
    rcases mem_blocks.1 hk with h6 | h6 | ⟨x, hx, h6⟩
    · exact mem_blocks.2 (.inl h6)
    · exact mem_blocks.2 (.inr (.inl h6))
    · have hx : x ∈ T.L.set j { e with s := e.b.length } := hx
      rcases List.mem_or_eq_of_mem_set hx with hx | rfl
      · exact mem_blocks.2 (.inr (.inr ⟨x, hx, h6⟩))
      · exact mem_blocks.2 (.inr (.inr ⟨e, List.mem_of_getElem? hj, h6⟩))
end
end Go.Proofs.YtnegnokielmgkaaGreatDoor
