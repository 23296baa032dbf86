/- A call with keys that are not too long; PageHolds, its walk. What the law PageLoads is given; a byte that is turned. -/
import Derived.Test.YtkkembbeejlomaaGreatDoorZPgbE
import Derived.Test.YtkkembbeejlomaaGreatDoorZPgeM
set_option linter.unusedSimpArgs false
set_option linter.unusedVariables false
set_option linter.unnecessarySimpa false
namespace Go.Proofs.YtkkembbeejlomaaGreatDoor
open Go.RowKit Go.Shelf Go.Sort Go.Lib

def cutB (s : ByteArray) : K := (s.data.toList).take 20
theorem cut_over {s : ByteArray} (h : 20 < s.size) : s.extract 0 20 = ⟨(cutB s).toArray⟩ := by
  unfold cutB
  apply ByteArray.ext
  rw [ByteArray.data_extract]
  apply Array.ext'
  simp
theorem cut_in {s : ByteArray} (h : ¬ 20 < s.size) : s = ⟨(cutB s).toArray⟩ := by
  unfold cutB
  apply ByteArray.ext
  apply Array.ext'
  have : s.data.toList.length ≤ 20 := by simpa using (show s.size ≤ 20 by omega)
  simp [List.take_of_length_le this]
theorem cut_len (s : ByteArray) : (cutB s).length ≤ 20 := by
  unfold cutB
  rw [List.length_take]
  omega
set_option maxRecDepth 100000 in
set_option maxHeartbeats 4000000 in
theorem small_any {w : World} (kd n : Int) (a b : ByteArray) :
    Calls Tryz.prog 26 #[.agg #[.int .i64 kd, .string a, .string b, .int .i64 n]] w fun e w' => e = .returned (.agg #[.int .i64 kd, .string ⟨(cutB a).toArray⟩, .string ⟨(cutB b).toArray⟩, .int .i64 n]) ∧ Below w.heap.size w w' := by
  by_cases ha : 20 < a.size
  · have ea : (⟨(cutB a).toArray⟩ : ByteArray) = a.extract 0 20 := (cut_over ha).symm
    have haI : (20 : Int) < (a.size : Int) := by omega
    by_cases hb : 20 < b.size
    · have eb : (⟨(cutB b).toArray⟩ : ByteArray) = b.extract 0 20 := (cut_over hb).symm
      have hbI : (20 : Int) < (b.size : Int) := by omega
      rw [ea, eb]
      clear ea eb
      go_enter Tryz.func26, Tryz.ntmps26
      go_wp2_with fail
      refine bodyPost_ret (v := .agg #[.int .i64 kd, .string (a.extract 0 20), .string (b.extract 0 20), .int .i64 n]) (by simp [results, Tryz.results26, go_sem]) rfl ?_
      exact ⟨rfl, (below_new _).trans ((below_new _).mono (by rw [asz]; omega))⟩
    · have eb : (⟨(cutB b).toArray⟩ : ByteArray) = b := (cut_in hb).symm
      have hbI : ¬ (20 : Int) < (b.size : Int) := by omega
      rw [ea, eb]
      clear ea eb
      go_enter Tryz.func26, Tryz.ntmps26
      go_wp2_with fail
      refine bodyPost_ret (v := .agg #[.int .i64 kd, .string (a.extract 0 20), .string (b), .int .i64 n]) (by simp [results, Tryz.results26, go_sem]) rfl ?_
      exact ⟨rfl, (below_new _).trans ((below_new _).mono (by rw [asz]; omega))⟩
  · have ea : (⟨(cutB a).toArray⟩ : ByteArray) = a := (cut_in ha).symm
    have haI : ¬ (20 : Int) < (a.size : Int) := by omega
    by_cases hb : 20 < b.size
    · have eb : (⟨(cutB b).toArray⟩ : ByteArray) = b.extract 0 20 := (cut_over hb).symm
      have hbI : (20 : Int) < (b.size : Int) := by omega
      rw [ea, eb]
      clear ea eb
      go_enter Tryz.func26, Tryz.ntmps26
      go_wp2_with fail
      refine bodyPost_ret (v := .agg #[.int .i64 kd, .string (a), .string (b.extract 0 20), .int .i64 n]) (by simp [results, Tryz.results26, go_sem]) rfl ?_
      exact ⟨rfl, (below_new _).trans ((below_new _).mono (by rw [asz]; omega))⟩
    · have eb : (⟨(cutB b).toArray⟩ : ByteArray) = b := (cut_in hb).symm
      have hbI : ¬ (20 : Int) < (b.size : Int) := by omega
      rw [ea, eb]
      clear ea eb
      go_enter Tryz.func26, Tryz.ntmps26
      go_wp2_with fail
      refine bodyPost_ret (v := .agg #[.int .i64 kd, .string (a), .string (b), .int .i64 n]) (by simp [results, Tryz.results26, go_sem]) rfl ?_
      exact ⟨rfl, (below_new _).trans ((below_new _).mono (by rw [asz]; omega))⟩
/-- Two stores of a law's own, and rows: what belongs to the one is not the other's. -/
structure DuoS (w0 w : World) (s m : Nat) (P : List (List Row)) (t m2 : Nat) (Q : List (List Row)) (rv : Value) (p : List Row) (ob : Nat) (oo : Obj) (v : Value) (L : List Pl) (v2 : Value) (L2 : List Pl) : Prop where
  st : St w s m v L P
  st2 : St w t m2 v2 L2 Q
  own : ∀ k, Owns s v L k → w0.heap.size ≤ k
  own2 : ∀ k, Owns t v2 L2 k → w0.heap.size ≤ k
  apart : ∀ k, Owns s v L k → ¬ Owns t v2 L2 k
  rows : RowOf w rv p
  ra : ∀ k, rv.ownBlock = some k → ¬ Owns s v L k
  ra2 : ∀ k, rv.ownBlock = some k → ¬ Owns t v2 L2 k
  box : w.heap[ob]? = some oo
  oa : ¬ Owns s v L ob
  oa2 : ¬ Owns t v2 L2 ob
  below : Below w0.heap.size w0 w
  glob : Glob w0
  fine : Fine m P
  fine2 : Fine m2 Q
def Duo (w0 w : World) (s m : Nat) (P : List (List Row)) (t m2 : Nat) (Q : List (List Row)) (rv : Value) (p : List Row) (ob : Nat) (oo : Obj) : Prop := ∃ v L v2 L2, DuoS w0 w s m P t m2 Q rv p ob oo v L v2 L2
section
variable {w0 w w' : World} {s m t m2 : Nat} {P Q : List (List Row)} {rv : Value} {p : List Row} {k : K} {n : Int} {ob : Nat} {oo : Obj}
theorem Duo.swap (h : Duo w0 w s m P t m2 Q rv p ob oo) : Duo w0 w t m2 Q s m P rv p ob oo := by
  obtain ⟨v, L, v2, L2, h⟩ := h
  exact ⟨v2, L2, v, L, h.st2, h.st, h.own2, h.own, fun k e e2 => h.apart k e2 e, h.rows, h.ra2, h.ra, h.box, h.oa2, h.oa, h.below, h.glob, h.fine2, h.fine⟩
theorem Duo.post {P' : List (List Row)} {v : Value} {L : List Pl} {v2 : Value} {L2 : List Pl} (h : DuoS w0 w s m P t m2 Q rv p ob oo v L v2 L2) (hp : StPost w s m v L P' w') (hF : Fine m P') : Duo w0 w' s m P' t m2 Q rv p ob oo := by
  obtain ⟨v', L', h1, h2, h3⟩ := hp
  have hs := h.below.size
  refine ⟨v', L', v2, L2, h1, h.st2.touch h2 (fun k e e2 => h.apart k e2 e), fun k hk => (h3 k hk).elim (h.own k) (fun e => by omega), h.own2, fun k hk e => ?_, RowIs.touch h.rows h2 (fun g e e2 => h.ra g e e2), fun k e e2 => ?_, h.ra2, (h2.block ob (heap_lt h.box) h.oa).trans h.box, fun e2 => ?_, h.oa2, h.below.trans (h2.below (fun i e => h.own i e) hs), h.glob, hF, h.fine2⟩
  · rcases h3 k hk with hk | hk
    · exact h.apart k hk e
    · have := h.st2.owns_lt k e
      omega
  · rcases h3 k e2 with hk | hk
    · exact h.ra k e hk
    · have := RowIs.lt h.rows k e
      omega
  · rcases h3 ob e2 with hk | hk
    · exact h.oa hk
    · have := heap_lt h.box
      omega
theorem Duo.put (h : Duo w0 w s m P t m2 Q rv p ob oo) (hk : k.length ≤ maxLen) :
    Calls Tryz.prog 16 #[.pointer (some ⟨s, 0, none⟩), strV k, .int .i64 n] w fun e w' => e = .returned (.int .i64 (putP m P ⟨k, n⟩).2) ∧ Duo w0 w' s m (putP m P ⟨k, n⟩).1 t m2 Q rv p ob oo := by
  obtain ⟨v, L, v2, L2, h⟩ := h
  refine (Put_any h.st h.fine hk (h.glob.below h.below) (fun e => by have := h.own _ e; have := h.glob.lt; omega)).mono ?_
  rintro e w' ⟨rfl, hp⟩
  exact ⟨rfl, Duo.post h hp (fine_put h.fine _)⟩
theorem Duo.del (h : Duo w0 w s m P t m2 Q rv p ob oo) :
    Calls Tryz.prog 18 #[.pointer (some ⟨s, 0, none⟩), strV k] w fun e w' => e = .returned (.bool (delP m P k).2) ∧ Duo w0 w' s m (delP m P k).1 t m2 Q rv p ob oo := by
  obtain ⟨v, L, v2, L2, h⟩ := h
  refine (Del_any h.st h.fine).mono ?_
  rintro e w' ⟨rfl, hp⟩
  exact ⟨rfl, Duo.post h hp (del_with h.fine).1⟩
theorem Duo.keep (h : Duo w0 w s m P t m2 Q rv p ob oo) (hb : Below w.heap.size w w') : Duo w0 w' s m P t m2 Q rv p ob oo := by
  obtain ⟨v, L, v2, L2, h⟩ := h
  exact ⟨v, L, v2, L2, h.st.below hb, h.st2.below hb, h.own, h.own2, h.apart, RowIs.below h.rows hb, h.ra, h.ra2, (hb.block ob (heap_lt h.box)).trans h.box, h.oa, h.oa2, h.below.trans (hb.mono h.below.size), h.glob, h.fine, h.fine2⟩
theorem Duo.next {rv' : Value} {p' : List Row} (h : Duo w0 w s m P t m2 Q rv p ob oo) (hr : RowsIs w' w.heap.size rv' p') (hb : Below w.heap.size w w') : Duo w0 w' s m P t m2 Q rv' p' ob oo := by
  obtain ⟨v, L, v2, L2, h⟩ := h
  exact ⟨v, L, v2, L2, h.st.below hb, h.st2.below hb, h.own, h.own2, h.apart, hr.1, fun k e e2 => by have := hr.2 k e; have := h.st.owns_lt k e2; omega, fun k e e2 => by have := hr.2 k e; have := h.st2.owns_lt k e2; omega, (hb.block ob (heap_lt h.box)).trans h.box, h.oa, h.oa2, h.below.trans (hb.mono h.below.size), h.glob, h.fine, h.fine2⟩
theorem Duo.get (h : Duo w0 w s m P t m2 Q rv p ob oo) (hl : p.length ≤ 1000) :
    Calls Tryz.prog 29 #[rv, strV k] w fun e w' => e = .returned (.tuple #[.int .i64 (getR p k).1, .bool (getR p k).2]) ∧ Duo w0 w' s m P t m2 Q rv p ob oo := by
  obtain ⟨v, L, v2, L2, h0⟩ := id h
  refine (RGet_any h0.rows hl k).mono ?_
  rintro e w' ⟨rfl, hb⟩
  exact ⟨rfl, h.keep hb⟩
theorem Duo.with_ {b : Bool} (h : Duo w0 w s m P t m2 Q rv p ob oo) (hl : p.length ≤ 1000) :
    Calls Tryz.prog 54 #[rv, .agg #[strV k, .int .i64 n, .bool b]] w fun e w' => ∃ A c, e = .returned (.slice A (withS k n b p).length c) ∧ Duo w0 w' s m P t m2 Q (.slice A (withS k n b p).length c) (withS k n b p) ob oo := by
  obtain ⟨v, L, v2, L2, h0⟩ := id h
  refine (With_any h0.rows hl k n b).mono ?_
  rintro e w' ⟨v', rfl, hr, hb⟩
  obtain ⟨A, c, rfl, _⟩ := RowIs.form hr.1
  exact ⟨A, c, rfl, h.next hr hb⟩
/-- Another block is looked at. -/
theorem Duo.look {ob' : Nat} {oo' : Obj} (h : Duo w0 w s m P t m2 Q rv p ob oo) (hb : Below w.heap.size w w') (h1 : w.heap.size ≤ ob') (h2 : w'.heap[ob']? = some oo') : Duo w0 w' s m P t m2 Q rv p ob' oo' := by
  obtain ⟨v, L, v2, L2, h0⟩ := h
  exact ⟨v, L, v2, L2, h0.st.below hb, h0.st2.below hb, h0.own, h0.own2, h0.apart, RowIs.below h0.rows hb, h0.ra, h0.ra2, h2, fun e => by have := h0.st.owns_lt _ e; omega, fun e => by have := h0.st2.owns_lt _ e; omega, h0.below.trans (hb.mono h0.below.size), h0.glob, h0.fine, h0.fine2⟩
theorem Duo.cell (h : Duo w0 w s m P t m2 Q rv p ob oo) : w.heap[ob]? = some oo := by
  obtain ⟨v, L, v2, L2, h⟩ := h
  exact h.box
theorem filter_all (p : List Row) : p.filter (scanR [] []) = p := by
  rw [List.filter_eq_self]
  intro r _
  unfold scanR
  have : ¬ r.k < [] := by simp
  simp [this]
/-- All rows of the first store, and whether they are the list's. -/
theorem Duo.scan (h : Duo w0 w s m P t m2 Q rv p ob oo) :
    Calls Tryz.prog 24 #[.pointer (some ⟨s, 0, none⟩), .string ⟨#[]⟩, .string ⟨#[]⟩] w fun e w' => ∃ A c, e = .returned (.slice A P.flatten.length c) ∧ RowOf w' (.slice A P.flatten.length c) P.flatten ∧ Duo w0 w' s m P t m2 Q rv p ob oo := by
  obtain ⟨v, L, v2, L2, h0⟩ := id h
  refine (Scan_any h0.st h0.fine [] []).mono ?_
  rintro e w' ⟨v', rfl, hr, hb⟩
  rw [filter_all] at hr
  obtain ⟨A, c, rfl, _⟩ := RowIs.form hr.1
  exact ⟨A, c, rfl, hr.1, h.keep hb⟩
theorem Duo.eq {A : Option Addr} {c : Nat} {q : List Row} (h : Duo w0 w s m P t m2 Q rv p ob oo) (hr : RowOf w (.slice A q.length c) q) (hq : q = p) (hl : p.length ≤ 1000) :
    Calls Tryz.prog 23 #[.slice A q.length c, rv] w fun e w' => e = .returned (.bool true) ∧ Duo w0 w' s m P t m2 Q rv p ob oo := by
  obtain ⟨v, L, v2, L2, h0⟩ := id h
  refine (RRows_any hr h0.rows (by rw [hq]; exact hl) hl).mono ?_
  rintro e w' ⟨rfl, hb⟩
  exact ⟨by rw [decide_eq_true hq], h.keep hb⟩
end
/-- Two new stores, and no rows. -/
theorem duo_new {w0 w1 : World} {s m m2 : Nat} (h : Sr w0 w1 s m []) (hm : 2 ≤ m2 ∧ m2 ≤ 64) :
    Calls Tryz.prog 5 #[.int .i64 m2] w1 fun e w' => ∃ t, e = .returned (.tuple #[.pointer (some ⟨t, 0, none⟩), .int .i64 0]) ∧ ∃ oo, Duo w0 w' s m [] t m2 [] (.slice none 0 0) [] 0 oo := by
  obtain ⟨v, L, h1, h2⟩ := h.st
  refine (sr_new (h.glob.below h.below) hm).mono ?_
  rintro e w' ⟨t, rfl, h3⟩
  obtain ⟨v2, L2, h4, h5⟩ := h3.st
  have hb := h3.below
  have hgl := h.glob.lt
  have hgl' : 0 < w'.heap.size := by have := h.below.size; have := hb.size; omega
  refine ⟨t, rfl, _, v, L, v2, L2, h1.below hb, h4, h2, fun k hk => Nat.le_trans h.below.size (h5 k hk), fun k hk e => by have := h1.owns_lt k hk; have := h5 k e; omega, RowIs.nil _ _, fun k e => (by cases e), fun k e => (by cases e), Array.getElem?_eq_getElem hgl', fun e => by have := h2 _ e; omega, fun e => by have := h5 _ e; have := h.below.size; omega, h.below.trans (hb.mono h.below.size), h.glob, h.fine, h3.fine⟩
end Go.Proofs.YtkkembbeejlomaaGreatDoor

namespace Go.Proofs.YtkkembbeejlomaaGreatDoor
open Go.RowKit Go.Shelf Go.Sort Go.Lib

theorem tmod_cases (c : Int) (N : Nat) (hN : 0 < N) : ∃ m : Nat, m < N ∧ (c.tmod N = (m : Int) ∨ (0 < m ∧ c.tmod N = -(m : Int))) := by
  have h2 : (c.tmod N).natAbs < N := by
    rw [Int.natAbs_tmod]
    exact Nat.mod_lt _ (by simpa using hN)
  rcases Int.lt_or_le (c.tmod N) 0 with h | h
  · exact ⟨(c.tmod N).natAbs, h2, .inr ⟨by omega, by omega⟩⟩
  · exact ⟨(c.tmod N).natAbs, h2, .inl (by omega)⟩
theorem OwnC.set {w : World} {base g cap : Nat} {l : List UInt8} (h : OwnC w base g cap l) {k : Nat} (hk : k < l.length) (y : UInt8) : OwnC (w.setCell ⟨g, k, none⟩ (.int .u8 (y.toNat : Int))) base g cap (l.set k y) := by
  have hs : (w.setCell ⟨g, k, none⟩ (.int .u8 (y.toNat : Int))).heap.size = w.heap.size := by simp [World.setCell]
  have hk2 : k < cap := Nat.lt_of_lt_of_le hk h.le
  have hsame : (w.setCell ⟨g, k, none⟩ (.int .u8 (y.toNat : Int))).cell? ⟨g, k, none⟩ = some (.int .u8 (y.toNat : Int)) := World.cell?_setCell_same' _ _ _ (h.there k hk2).1
  have hother : ∀ j, j ≠ k → (w.setCell ⟨g, k, none⟩ (.int .u8 (y.toNat : Int))).cell? ⟨g, j, none⟩ = w.cell? ⟨g, j, none⟩ := fun j hj => World.cell?_setCell_other _ _ _ _ (fun e => hj (by injection e with _ e _; exact e.symm))
  refine ⟨h.new, by rw [hs]; exact h.lt, by rw [List.length_set]; exact h.le, h.max, fun j b hj => ?_, fun j hj => ⟨?_, by rw [World.frozen?_setCell]; exact (h.there j hj).2⟩⟩
  · by_cases hjk : j = k
    · subst hjk
      rw [List.getElem?_set_self hk] at hj
      rw [hsame, ← Option.some.inj hj]
    · rw [List.getElem?_set_ne (by omega)] at hj
      rw [hother j hjk]
      exact h.holds j b hj
  · by_cases hjk : j = k
    · subst hjk; rw [hsame]; rfl
    · rw [hother j hjk]; exact (h.there j hj).1
theorem u8_xor (a b : UInt8) : bits .xor .u8 (a.toNat : Int) (b.toNat : Int) = ((a ^^^ b).toNat : Int) := by
  rw [u8_xor_nat _ _ (UInt8.toNat_lt a) (UInt8.toNat_lt b)]
  rfl
/-- A given slice of rows. -/
def RowsArg (w : World) (v : Value) (n : Nat) : Prop := ∃ A cap, v = .slice A n cap ∧ n ≤ cap ∧ cap ≤ maxLen ∧ ∀ i, i < n → ∃ (a : Addr) (s : ByteArray) (m : Int), A = some a ∧ a.block < w.heap.size ∧ w.cell? (a.add (i * 2)) = some (.string s) ∧ w.cell? ((a.add (i * 2)).add 1) = some (.int .i64 m) ∧ -9223372036854775808 ≤ m ∧ m ≤ 9223372036854775807
/-- A given slice of pages. -/
def PagesArg (w : World) (v : Value) (n : Nat) : Prop := ∃ A cap, v = .slice A n cap ∧ n ≤ cap ∧ cap ≤ maxLen ∧ ∀ i, i < n → ∃ (a : Addr) (u : Value) (m : Nat), A = some a ∧ a.block < w.heap.size ∧ w.cell? (a.add i) = some u ∧ RowsArg w u m
theorem bytes_len {P : List (List Row)} (h64 : ∀ p ∈ P, p.length ≤ 64) (hR : ∀ p ∈ P, ∀ r ∈ p, RowW r) (hl : P.length ≤ 1000) : (bytesP P).length ≤ 9 + P.length * 3000 := by
  have hrow : ∀ r, RowW r → (rowB r).length ≤ 40 := fun r hr => by
    unfold rowB
    rw [List.length_append, strB_k]
    have := natB_le (n := r.k.length) (by have := hr.1; omega)
    have := natB_le (numN_le hr.2.1 hr.2.2)
    have := hr.1
    omega
  have hrows : ∀ p : List Row, (∀ r ∈ p, RowW r) → (p.flatMap rowB).length ≤ p.length * 40 := fun p => by
    induction p with
    | nil => intro _; simp
    | cons r p ih =>
      intro h
      have h1 := ih (fun x hx => h x (List.mem_cons_of_mem _ hx))
      have h2 := hrow r (h r (List.mem_cons_self ..))
      rw [List.flatMap_cons, List.length_append, List.length_cons, Nat.succ_mul]
      omega
  have hpages : ∀ Q : List (List Row), (∀ p ∈ Q, p.length ≤ 64) → (∀ p ∈ Q, ∀ r ∈ p, RowW r) → (Q.flatMap pageB).length ≤ Q.length * 3000 := fun Q => by
    induction Q with
    | nil => intro _ _; simp
    | cons p Q ih =>
      intro h1 h2
      have h3 := ih (fun x hx => h1 x (List.mem_cons_of_mem _ hx)) (fun x hx => h2 x (List.mem_cons_of_mem _ hx))
      have h4 := hrows p (h2 p (List.mem_cons_self ..))
      have h5 := h1 p (List.mem_cons_self ..)
      have h6 := natB_le (n := p.length) (by omega)
      have h7 : (pageB p).length = (natB p.length).length + (p.flatMap rowB).length := by unfold pageB; rw [List.length_append]
      rw [List.flatMap_cons, List.length_append, List.length_cons, Nat.succ_mul, h7]
      omega
  unfold bytesP
  rw [List.length_append]
  have := natB_le (n := P.length) (by omega)
  have := hpages P h64 hR
  omega
theorem BIs.front {w : World} {a : Addr} {c n : Nat} {l : List UInt8} (h : BIs w (.slice (some a) l.length c) l) (hn : n ≤ l.length) : BIs w (.slice (some a) n c) (l.take n) := by
  obtain ⟨A, cap, e, h1, h2, h3⟩ := h
  injection e with e1 _ e3
  subst e1 e3
  have hl : (l.take n).length = n := by rw [List.length_take]; omega
  refine ⟨some a, c, by rw [hl], by rw [hl]; omega, h2, fun i b hi => ?_⟩
  rw [List.getElem?_take] at hi
  split at hi
  · exact h3 i b hi
  · cases hi
end Go.Proofs.YtkkembbeejlomaaGreatDoor
