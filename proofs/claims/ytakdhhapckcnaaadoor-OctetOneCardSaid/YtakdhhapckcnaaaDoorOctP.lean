/- octet.Of over any bytes; a reader behind a question: what its End will say; the law OctetOne. -/
import Derived.Test.YtakdhhapckcnaaaDoorOctM
import Derived.Deep.RegionHeld
import Derived.Deep.Cut
import Derived.Deep.DeepCutAuto
import Derived.Deep.CutRange
set_option linter.unusedSimpArgs false
set_option linter.unusedVariables false
set_option linter.unnecessarySimpa false
namespace Go.Proofs.YtakdhhapckcnaaaDoor
open Go.RowKit

/-- A value that reads as bytes. -/
def BIs (w : World) (v : Value) (l : List UInt8) : Prop :=
  ∃ A cap, v = .slice A l.length cap ∧ l.length ≤ cap ∧ cap ≤ maxLen ∧ ∀ i b, l[i]? = some b → ∃ a : Addr, A = some a ∧ a.block < w.heap.size ∧ w.cell? (a.add i) = some (.int .u8 (b.toNat : Int))
theorem BIs.below {w w' : World} {v : Value} {l : List UInt8} (h : BIs w v l) (hb : Below w.heap.size w w') : BIs w' v l := by
  obtain ⟨A, cap, rfl, h1, h2, h3⟩ := h
  refine ⟨A, cap, rfl, h1, h2, fun i b hi => ?_⟩
  obtain ⟨a, q1, q2, q3⟩ := h3 i b hi
  exact ⟨a, q1, Nat.lt_of_lt_of_le q2 hb.size, (hb.cell (by rw [add_block]; exact q2)).trans q3⟩
theorem BIs.src {w : World} {v : Value} {l : List UInt8} (h : BIs w v l) : Src Tryd.prog 1 54 v l.length (bc l) w := by
  obtain ⟨A, cap, rfl, h1, h2, h3⟩ := h
  cases A with
  | none =>
    have : l = [] := by
      cases l with
      | nil => rfl
      | cons x r => obtain ⟨a, e, _⟩ := h3 0 x rfl; cases e
    subst this
    exact Src.ofNil w Tryd.underlying54 cap
  | some a =>
    exact Src.ofSlice w Tryd.underlying54 a l.length cap (bc l) (by simp [bc_length]) (fun j u hu => by
      obtain ⟨b, hb, rfl⟩ := bc_at hu
      obtain ⟨a', e, _, hc⟩ := h3 j b hb
      cases e; exact hc) (bc_one l)

set_option maxRecDepth 100000 in
set_option maxHeartbeats 1000000 in
theorem clone_any {w : World} {v : Value} {l : List UInt8} (h : BIs w v l) (hl : l.length ≤ 1073741824) :
    Calls Tryd.prog 70 #[v] w fun e w' => ∃ v', e = .returned v' ∧ OwnBy w' w.heap.size v' l ∧ Below w.heap.size w w' := by
  have hA : Below w.heap.size w (w.alloc (.cells #[] 5)) := (Below.refl _ _).alloc (Nat.le_refl _) _
  have own0 : Hid (OwnBy (w.alloc (.cells #[] 5)) w.heap.size (.slice (some ⟨w.heap.size, 0, none⟩) 0 0) []) :=
    .inr ⟨w.heap.size, 0, rfl, ⟨Nat.le_refl _, by simp, Nat.le_refl _, by unfold maxLen; omega, fun j b hj => by simp at hj, fun j hj => by omega⟩⟩
  have src := Lib.hid (h.below hA).src
  obtain ⟨A, cap, rfl, _, _, h3⟩ := h
  cases A with
  | none =>
    have : l = [] := by
      cases l with
      | nil => rfl
      | cons x r => obtain ⟨a, e, _⟩ := h3 0 x rfl; cases e
    subst this
    have hnil : ∀ (w : World), (binOp .eql 54 (.slice none 0 cap) (.slice none 0 0)).run Tryd.prog w = .ok (.bool true) w := fun w => by simp [binOp, run_equal_slice_nil w 54 5 _ _ _ Tryd.underlying54]
    clear h3 hA
    go_enter Tryd.func70, Tryd.ntmps70
    go_wp2
    go_ret
    exact ⟨_, rfl, .inl ⟨rfl, rfl⟩, Below.refl _ _⟩
  | some a =>
    have hnil : ∀ (w : World), (binOp .eql 54 (.slice (some a) l.length cap) (.slice none 0 0)).run Tryd.prog w = .ok (.bool false) w := fun w => by simp [binOp, run_equal_slice_nil w 54 5 _ _ _ Tryd.underlying54]
    have HA := Lib.hid hA
    clear hA h3
    go_enter Tryd.func70, Tryd.ntmps70
    go_wp2_with (at_builtin; refine wpList_append_by _ rfl _ _ 54 rfl w.heap.size [] l _ _ rfl rfl own0.out src.out ?_ ?_ ?_)
    · simpa using hl
    · simp
    intro v' w' hown hg
    have HO := Lib.hid hown
    have hrow : ∀ k, (Value.slice (some ⟨w.heap.size, 0, none⟩) 0 0).ownBlock = some k → w.heap.size ≤ k := by
      intro k hk
      have : w.heap.size = k := by simpa [Value.ownBlock] using hk
      omega
    have HB := Lib.hid (HA.out.grown hg (by simp) hrow)
    clear hown hg
    go_wp2
    go_ret
    exact ⟨_, rfl, HO.out, HB.out⟩

theorem bis_string {w : World} {v : Value} {l : List UInt8} (h : BIs w v l) : (convert 54 9 v).run Tryd.prog w = .ok (.string ⟨l.toArray⟩) w := by
  obtain ⟨A, cap, rfl, _, _, h3⟩ := h
  cases A with
  | none =>
    have : l = [] := by
      cases l with
      | nil => rfl
      | cons x r => obtain ⟨a, e, _⟩ := h3 0 x rfl; cases e
    subst this
    exact run_convert_bytes_nil w 54 5 Tryd.underlying54 Tryd.underlying5 0 cap 9 Tryd.underlying9
  | some a =>
    exact run_convert_bytes_back w 54 9 5 a cap l Tryd.underlying54 Tryd.underlying5 Tryd.underlying9 (fun j hj => by
      obtain ⟨a', e, _, hc⟩ := h3 j _ (List.getElem?_eq_getElem hj)
      cases e; exact hc)


set_option maxRecDepth 100000 in
set_option maxHeartbeats 1000000 in
theorem of_any {w : World} {v : Value} {l : List UInt8} (h : BIs w v l) (hl : l.length ≤ 1073741824) :
    Calls Tryd.prog 46 #[v] w fun e w' => ∃ g A cap', e = .returned (.pointer (some ⟨g, 0, none⟩)) ∧ w.heap.size ≤ g ∧ Rd w' g A cap' l 0 .nilIface [] ∧ Below w.heap.size w w' := by
  have HC := Lib.hid (clone_any h hl)
  obtain ⟨A0, cap0, rfl, _, _, h3⟩ := h
  clear h3
  go_enter Tryd.func46, Tryd.ntmps46
  go_wp2_with fail
  refine (HC.out).mono ?_
  rintro e w1 ⟨v, rfl, hown, hb⟩
  have HO := Lib.hid hown
  have HB := Lib.hid hb
  obtain ⟨A, cap', rfl, hf⟩ : ∃ A cap', v = .slice A l.length cap' ∧ l.length ≤ cap' ∧ cap' ≤ maxLen ∧ ∀ i b, l[i]? = some b → ∃ gb, A = some ⟨gb, 0, none⟩ ∧ gb < w1.heap.size ∧ w1.cell? ⟨gb, i, none⟩ = some (.int .u8 (b.toNat : Int)) := by
    rcases hown with ⟨rfl, rfl⟩ | ⟨g, c, rfl, h⟩
    · exact ⟨_, _, rfl, Nat.zero_le _, by unfold maxLen; omega, fun i b hi => by simp at hi⟩
    · exact ⟨_, _, rfl, h.le, h.max, fun i b hi => ⟨g, rfl, h.lt, h.holds i b hi⟩⟩
  have HF := Lib.hid hf
  clear hown hb hf
  go_wp2
  go_ret
  have hA : Below w1.heap.size w1 (w1.alloc (.cells #[.slice A l.length cap', .int .i64 0, .nilIface] 112)) := (Below.refl _ _).alloc (Nat.le_refl _) _
  refine ⟨w1.heap.size, A, cap', rfl, HB.out.size, ⟨heap_alloc_new w1 _, rfl, HF.out.1, HF.out.2.1, Nat.zero_le _, fun i b hi => ?_⟩, HB.out.trans (hA.mono HB.out.size)⟩
  obtain ⟨gb, q1, q2, q3⟩ := HF.out.2.2 i b hi
  exact ⟨gb, q1, by omega, Nat.lt_of_lt_of_le q2 hA.size, (hA.cell (p := ⟨gb, i, none⟩) q2).trans q3⟩
theorem Rd.otherq {w w' : World} {g g2 : Nat} {A A2 : Option Addr} {cap cap2 : Nat} {bs bs2 : List UInt8} {pos pos2 : Nat} {ev ev2 : Value} {c c2 : List Lk} (h : Rd w g A cap bs pos ev c) (h2 : Rd w g2 A2 cap2 bs2 pos2 ev2 c2) (hne : g ≠ g2) (ho : Only g2 w w') : Rd w' g A cap bs pos ev c := by
  refine ⟨(ho.block g (ErrIs.lt h.blk) hne).trans h.blk, ErrIs.only h2.blk ho.block _ _ h.err, h.le, h.max, h.pos_le, fun i b hi => ?_⟩
  obtain ⟨gb, e1, e2, e3, e4⟩ := h.byt i b hi
  have hgb : gb ≠ g2 := by
    intro e
    subst e
    have h0 : 0 < bs.length := Nat.lt_of_le_of_lt (Nat.zero_le _) (List.getElem?_eq_some_iff.1 hi).1
    obtain ⟨gb', f1, _, _, f4⟩ := h.byt 0 bs[0] (List.getElem?_eq_getElem h0)
    rw [e1] at f1
    injection f1 with f1
    injection f1 with f1
    subst f1
    have := cell_of_row w gb 0 _ _ _ h2.blk
    rw [f4] at this
    simp at this
  exact ⟨gb, e1, e2, Nat.lt_of_lt_of_le e3 ho.size, (World.cell?_of_block (a := ⟨gb, i, none⟩) (ho.block gb e3 hgb)).trans e4⟩
theorem Below.of_onlyq {B g : Nat} {w w' : World} (h : Only g w w') (hB : B ≤ g) (hs : B ≤ w.heap.size) : Below B w w' :=
  ⟨h.os, h.tape, h.output, h.size, fun k hk => h.block k (Nat.lt_of_lt_of_le hk hs) (by omega)⟩

/-- There is a reader. -/
def Has (w : World) (g : Nat) : Prop := ∃ A cap bs pos ev c, Rd w g A cap bs pos ev c
/-- A reader of l behind a question: either something was wrong, or it stands somewhere, and at the end only if l is just enc. -/
def St (w : World) (g : Nat) (l enc : List UInt8) : Prop := ∃ A cap, Bad w g A cap l ∨ ∃ pos, Rd w g A cap l pos .nilIface [] ∧ (pos = l.length → enc = l)
theorem Bad.has {w : World} {g : Nat} {A : Option Addr} {cap : Nat} {l : List UInt8} (h : Bad w g A cap l) : Has w g := by
  obtain ⟨p, e, t, u, _, _, _, h⟩ := h
  exact ⟨_, _, _, _, _, _, h⟩
theorem St.has {w : World} {g : Nat} {l enc : List UInt8} (h : St w g l enc) : Has w g := by
  obtain ⟨A, cap, h | ⟨pos, h, _⟩⟩ := h
  · exact h.has
  · exact ⟨_, _, _, _, _, _, h⟩
theorem Has.other {w w' : World} {g g2 : Nat} (h : Has w g) (h2 : Has w g2) (hne : g ≠ g2) (ho : Only g2 w w') : Has w' g := by
  obtain ⟨_, _, _, _, _, _, h⟩ := h
  obtain ⟨_, _, _, _, _, _, h2⟩ := h2
  exact ⟨_, _, _, _, _, _, h.otherq h2 hne ho⟩
theorem St.other {w w' : World} {g g2 : Nat} {l enc : List UInt8} (h : St w g l enc) (h2 : Has w g2) (hne : g ≠ g2) (ho : Only g2 w w') : St w' g l enc := by
  obtain ⟨_, _, _, _, _, _, h2⟩ := h2
  obtain ⟨A, cap, ⟨p, e, t, u, q1, q2, q3, h⟩ | ⟨pos, h, hp⟩⟩ := h
  · exact ⟨A, cap, .inl ⟨p, e, t, u, q1, q2, q3, h.otherq h2 hne ho⟩⟩
  · exact ⟨A, cap, .inr ⟨pos, h.otherq h2 hne ho, hp⟩⟩
theorem St.below {w w' : World} {g : Nat} {l enc : List UInt8} (h : St w g l enc) (hb : Below w.heap.size w w') : St w' g l enc := by
  obtain ⟨A, cap, ⟨p, e, t, u, q1, q2, q3, h⟩ | ⟨pos, h, hp⟩⟩ := h
  · exact ⟨A, cap, .inl ⟨p, e, t, u, q1, q2, q3, h.below hb⟩⟩
  · exact ⟨A, cap, .inr ⟨pos, h.below hb, hp⟩⟩
def Done (w : World) (g : Nat) (l : List UInt8) : Prop := ∃ A cap, Rd w g A cap l l.length .nilIface []
def Opn (w : World) (g : Nat) (l : List UInt8) : Prop := ∃ A cap, Bad w g A cap l ∨ ∃ pos, Rd w g A cap l pos .nilIface [] ∧ pos < l.length
theorem St.cases {w : World} {g : Nat} {l enc : List UInt8} (h : St w g l enc) : (Done w g l ∧ enc = l) ∨ Opn w g l := by
  obtain ⟨A, cap, h | ⟨pos, h, hp⟩⟩ := h
  · exact .inr ⟨A, cap, .inl h⟩
  · by_cases he : pos = l.length
    · subst he; exact .inl ⟨⟨A, cap, h⟩, hp rfl⟩
    · exact .inr ⟨A, cap, .inr ⟨pos, h, by have := h.pos_le; omega⟩⟩
theorem Done.below {w w' : World} {g : Nat} {l : List UInt8} (h : Done w g l) (hb : Below w.heap.size w w') : Done w' g l := by
  obtain ⟨A, cap, h⟩ := h
  exact ⟨A, cap, h.below hb⟩
theorem Opn.below {w w' : World} {g : Nat} {l : List UInt8} (h : Opn w g l) (hb : Below w.heap.size w w') : Opn w' g l := by
  obtain ⟨A, cap, ⟨p, e, t, u, q1, q2, q3, h⟩ | ⟨pos, h, hp⟩⟩ := h
  · exact ⟨A, cap, .inl ⟨p, e, t, u, q1, q2, q3, h.below hb⟩⟩
  · exact ⟨A, cap, .inr ⟨pos, h.below hb, hp⟩⟩
theorem end_done {w : World} {g : Nat} {l : List UInt8} (hG : Glob w) (h : Done w g l) : Calls Tryd.prog 56 #[.pointer (some ⟨g, 0, none⟩)] w fun e w' => e = .returned (.int .i64 0) ∧ Only g w w' := by
  obtain ⟨A, cap, h⟩ := h
  exact (rend_ok hG h).mono fun e w' ⟨h1, h2⟩ => ⟨h1, Only.of_below h2⟩
theorem end_open {w : World} {g : Nat} {l : List UInt8} (hG : Glob w) (hg : g ≠ 0) (h : Opn w g l) : Calls Tryd.prog 56 #[.pointer (some ⟨g, 0, none⟩)] w fun e w' => ∃ x : Int, e = .returned (.int .i64 x) ∧ (x == 0) = false ∧ Only g w w' := by
  obtain ⟨A, cap, h | ⟨pos, h, hp⟩⟩ := h
  · exact (rend_bad hG h).mono fun e w' ⟨⟨x, h1, h2⟩, h3⟩ => ⟨x, h1, beq_eq_false_iff_ne.2 h2, Only.of_below h3⟩
  · exact (rend_left hG hg h hp).mono fun e w' ⟨⟨x, h1, h2⟩, h3⟩ => ⟨x, h1, beq_eq_false_iff_ne.2 h2, h3⟩
/-- The four questions at the beginning. -/
theorem nat_st {w : World} {g : Nat} {A : Option Addr} {cap : Nat} {l : List UInt8} (h : Rd w g A cap l 0 .nilIface []) :
    Calls Tryd.prog 47 #[.pointer (some ⟨g, 0, none⟩)] w fun e w' => ∃ n : Nat, e = .returned (.int .u64 (n : Int)) ∧ n ≤ 18446744073709551615 ∧ St w' g l (natB n) ∧ Only g w w' := by
  cases hp : natP l with
  | none => exact (rnat_bad h (by rw [List.drop_zero]; exact hp)).mono fun e w' ⟨h1, ⟨t, u, h2⟩, h3⟩ => ⟨0, h1, by omega, ⟨A, cap, .inl ⟨0, 6, t, u, by decide, by decide, by decide, h2⟩⟩, h3⟩
  | some x =>
    obtain ⟨n, sz⟩ := x
    obtain ⟨h4, h5, h6⟩ := natP_only hp
    exact (rnat_ok (n := n) (sz := sz) h (by rw [List.drop_zero]; exact hp)).mono fun e w' ⟨h1, h2, h3⟩ => ⟨n, h1, h4, ⟨A, cap, .inr ⟨_, h2, fun he => by rw [← h5, show sz = l.length by omega, List.take_length]⟩⟩, h3⟩
theorem numN_numV (n : Nat) : numN (numV n) = n := by
  unfold numN numV
  split <;> split <;> omega
theorem num_st {w : World} {g : Nat} {A : Option Addr} {cap : Nat} {l : List UInt8} (h : Rd w g A cap l 0 .nilIface []) :
    Calls Tryd.prog 48 #[.pointer (some ⟨g, 0, none⟩)] w fun e w' => ∃ m : Int, e = .returned (.int .i64 m) ∧ -9223372036854775808 ≤ m ∧ m ≤ 9223372036854775807 ∧ St w' g l (natB (numN m)) ∧ Only g w w' := by
  cases hp : natP l with
  | none =>
    exact (rnum_bad h (by rw [List.drop_zero]; exact hp)).mono fun e w' ⟨h1, h2, h3⟩ => ⟨0, h1, by omega, by omega, ⟨A, cap, .inl h2⟩, h3⟩
  | some x =>
    obtain ⟨n, sz⟩ := x
    obtain ⟨h4, h5, h6⟩ := natP_only hp
    refine (rnum_ok (n := n) (sz := sz) h (by rw [List.drop_zero]; exact hp) h4).mono fun e w' ⟨h1, h2, h3⟩ => ⟨numV n, h1, ?_, ?_, ⟨A, cap, .inr ⟨_, h2, fun he => by rw [numN_numV, ← h5, show sz = l.length by omega, List.take_length]⟩⟩, h3⟩
    · unfold numV; split <;> omega
    · unfold numV; split <;> omega
theorem str_st {w : World} {g : Nat} {A : Option Addr} {cap : Nat} {l : List UInt8} (h : Rd w g A cap l 0 .nilIface []) :
    Calls Tryd.prog 49 #[.pointer (some ⟨g, 0, none⟩), .int .i64 300] w fun e w' => ∃ s : ByteArray, e = .returned (.string s) ∧ s.size ≤ 300 ∧ St w' g l (strB s) ∧ Only g w w' := by
  cases hp : strP 300 l with
  | none => exact (rstr_bad (most := 300) h (by rw [List.drop_zero]; exact hp) (by decide)).mono fun e w' ⟨h1, h2, h3⟩ => ⟨⟨#[]⟩, h1, by decide, ⟨A, cap, .inl h2⟩, h3⟩
  | some x =>
    obtain ⟨s, k⟩ := x
    obtain ⟨h4, h5, h6, h7⟩ := strP_only hp
    exact (rstr_P (most := 300) (s := s) (k := k) h (by rw [List.drop_zero]; exact hp) (by decide)).mono fun e w' ⟨h1, h2, h3⟩ => ⟨s, h1, h4, ⟨A, cap, .inr ⟨_, h2, fun he => by rw [← h6, show k = l.length by omega, List.take_length]⟩⟩, h3⟩
theorem strs_st {w : World} {g : Nat} {A : Option Addr} {cap : Nat} {l : List UInt8} (h : Rd w g A cap l 0 .nilIface []) (hl : l.length ≤ 300) :
    Calls Tryd.prog 51 #[.pointer (some ⟨g, 0, none⟩), .int .i64 300, .int .i64 300] w fun e w' => ∃ v ss, e = .returned v ∧ TxtIs w' v ss ∧ ss.length ≤ 1000 ∧ (strsB ss).length ≤ 1000000 ∧ St w' g l (strsB ss) ∧ Only g w w' := by
  have bad : (natP l = none ∨ ∃ n sz, natP l = some (n, sz) ∧ (300 < n ∨ textsP 300 n (l.drop sz) = none)) →
      Calls Tryd.prog 51 #[.pointer (some ⟨g, 0, none⟩), .int .i64 300, .int .i64 300] w fun e w' => ∃ v ss, e = .returned v ∧ TxtIs w' v ss ∧ ss.length ≤ 1000 ∧ (strsB ss).length ≤ 1000000 ∧ St w' g l (strsB ss) ∧ Only g w w' := fun hp =>
    (rstrs_bad (many := 300) (most := 300) h (by decide) (by decide) (by rw [List.drop_zero]; simpa using hp)).mono fun e w' ⟨h1, h2, h3⟩ => ⟨_, [], h1, .inl ⟨rfl, rfl⟩, by simp, by decide, ⟨A, cap, .inl h2⟩, h3⟩
  cases hp : natP l with
  | none => exact bad (.inl hp)
  | some x =>
    obtain ⟨n, sz⟩ := x
    by_cases hn : 300 < n
    · exact bad (.inr ⟨n, sz, hp, .inl hn⟩)
    · cases ht : textsP 300 n (l.drop sz) with
      | none => exact bad (.inr ⟨n, sz, hp, .inr ht⟩)
      | some y =>
        obtain ⟨ss, b⟩ := y
        obtain ⟨h4, h5, h6⟩ := natP_only hp
        obtain ⟨t1, t2, t3, t4, t5⟩ := textsP_only ht
        have hsz := natP_size hp
        rw [List.length_drop] at t3
        have hlen : (strsB ss).length = sz + b := by
          unfold strsB
          rw [List.length_append, ← t5, t1, ← h6]
        refine (rstrs_ok (many := 300) (most := 300) (n := n) (sz := sz) (b := b) (ss := ss) h (by rw [List.drop_zero]; exact hp) (by omega) (by decide) (by rw [Nat.zero_add]; exact ht) (by decide)).mono fun e w' ⟨v, h1, h2, h3, h7⟩ => ⟨v, ss, h1, h2, by omega, by omega, ⟨A, cap, .inr ⟨_, h3, fun he => ?_⟩⟩, h7⟩
        unfold strsB
        rw [t1, ← h5, ← t4, ← List.take_add, show sz + b = l.length by omega, List.take_length]
theorem Done.other {w w' : World} {g g2 : Nat} {l : List UInt8} (h : Done w g l) (h2 : Has w g2) (hne : g ≠ g2) (ho : Only g2 w w') : Done w' g l := by
  obtain ⟨_, _, _, _, _, _, h2⟩ := h2
  obtain ⟨A, cap, h⟩ := h
  exact ⟨A, cap, h.otherq h2 hne ho⟩
theorem Opn.other {w w' : World} {g g2 : Nat} {l : List UInt8} (h : Opn w g l) (h2 : Has w g2) (hne : g ≠ g2) (ho : Only g2 w w') : Opn w' g l := by
  obtain ⟨_, _, _, _, _, _, h2⟩ := h2
  obtain ⟨A, cap, ⟨p, e, t, u, q1, q2, q3, h⟩ | ⟨pos, h, hp⟩⟩ := h
  · exact ⟨A, cap, .inl ⟨p, e, t, u, q1, q2, q3, h.otherq h2 hne ho⟩⟩
  · exact ⟨A, cap, .inr ⟨pos, h.otherq h2 hne ho, hp⟩⟩
theorem Done.has {w : World} {g : Nat} {l : List UInt8} (h : Done w g l) : Has w g := by
  obtain ⟨A, cap, h⟩ := h
  exact ⟨_, _, _, _, _, _, h⟩
theorem Opn.has {w : World} {g : Nat} {l : List UInt8} (h : Opn w g l) : Has w g := by
  obtain ⟨A, cap, h | ⟨pos, h, _⟩⟩ := h
  · exact h.has
  · exact ⟨_, _, _, _, _, _, h⟩
theorem Has.below {w w' : World} {g : Nat} (h : Has w g) (hb : Below w.heap.size w w') : Has w' g := by
  obtain ⟨_, _, _, _, _, _, h⟩ := h
  exact ⟨_, _, _, _, _, _, h.below hb⟩
theorem TxtIs.other {w w' : World} {g : Nat} {v : Value} {ss : List ByteArray} (h : TxtIs w v ss) (hh : Has w g) (ho : Only g w w') : TxtIs w' v ss := by
  rcases h with h | ⟨a, cap, hv, h1, h2, h3, h4⟩
  · exact .inl h
  · refine .inr ⟨a, cap, hv, h1, h2, Nat.lt_of_lt_of_le h3 ho.size, fun i s hi => ?_⟩
    have hs := h4 i s hi
    have hne : a.block ≠ g := by
      intro e
      obtain ⟨A, cp, bs, pos, ev, c, hR⟩ := hh
      have hblk : w.heap[(a.add i).block]? = some (.cells #[.slice A bs.length cp, .int .i64 (pos : Int), ev] 112 (0, 0)) := by rw [add_block, e]; exact hR.blk
      unfold World.cell? at hs
      rw [hblk] at hs
      have hev : ∀ x, ev ≠ .string x := by
        intro x hx
        have he := hR.err
        cases c with
        | nil => have : ev = .nilIface := he; rw [this] at hx; cases hx
        | cons k r =>
          obtain ⟨t, u, he⟩ := he.form1
          rw [he] at hx; cases hx
      have hs' : (#[.slice A bs.length cp, .int .i64 (pos : Int), ev] : Array Value)[(a.add i).off]? = some (.string s) := by
        first | exact hs | (split at hs; · exact hs; · cases hs) | (simp at hs ⊢; exact hs) | (split at hs <;> simp_all)
      generalize (a.add i).off = o at hs'
      match o with
      | 0 => simp at hs'
      | 1 => simp at hs'
      | 2 => simp at hs'; exact hev s hs'
      | o + 3 => simp at hs'
    exact (World.cell?_of_block (ho.block (a.add i).block (by rw [add_block]; exact h3) (by rw [add_block]; exact hne))).trans hs
end Go.Proofs.YtakdhhapckcnaaaDoor
