/- trie: what may be wrong with one path. -/
import Derived.Test.YtpploljennbpdaaDoorZTriT
import Derived.Test.YtpploljennbpdaaDoorZEnD
set_option linter.unusedSimpArgs false
set_option linter.unusedVariables false
set_option linter.unnecessarySimpa false
namespace Go.Proofs.YtpploljennbpdaaDoor
open Go.RowKit Go.Shelf

/-- An error of a number, of a chain of d links at most, that lies in blocks from B on alone. -/
def ErrN (B : Nat) (w : World) (d : Nat) (code : Int) (v : Value) : Prop :=
  ∃ (t : TypeId) (u : Value) (c : List Lk), v = .iface t u ∧ c ≠ [] ∧ c.length ≤ d ∧ NumOk c ∧ codeOf c = code ∧ ∀ W : World, (∀ b, B ≤ b → b < w.heap.size → W.heap[b]? = w.heap[b]?) → ErrIs W c v
theorem ErrN.keep {B d : Nat} {w W : World} {code : Int} {v : Value} (h : ErrN B w d code v) (hs : w.heap.size ≤ W.heap.size) (hk : ∀ b, B ≤ b → b < w.heap.size → W.heap[b]? = w.heap[b]?) : ErrN B W d code v := by
  obtain ⟨t, u, c, h1, h2, h3, h4, h5, h6⟩ := h
  exact ⟨t, u, c, h1, h2, h3, h4, h5, fun W2 h7 => h6 W2 (fun b hb hl => (h7 b hb (by omega)).trans (hk b hb hl))⟩
theorem ErrN.below {B d : Nat} {w W : World} {code : Int} {v : Value} (h : ErrN B w d code v) (hb : Below w.heap.size w W) : ErrN B W d code v := h.keep hb.size (fun b _ hl => hb.block b hl)
theorem ErrN.mono {B C d : Nat} {w : World} {code : Int} {v : Value} (h : ErrN B w d code v) (hc : C ≤ B) : ErrN C w d code v := by
  obtain ⟨t, u, c, h1, h2, h3, h4, h5, h6⟩ := h
  exact ⟨t, u, c, h1, h2, h3, h4, h5, fun W2 h7 => h6 W2 (fun b hb hl => h7 b (by omega) hl)⟩
theorem ErrN.is {B d : Nat} {w : World} {code : Int} {v : Value} (h : ErrN B w d code v) : ∃ (t : TypeId) (u : Value) (c : List Lk), v = .iface t u ∧ c.length ≤ d ∧ NumOk c ∧ codeOf c = code ∧ ErrIs w c v := by
  obtain ⟨t, u, c, h1, h2, h3, h4, h5, h6⟩ := h
  exact ⟨t, u, c, h1, h3, h4, h5, h6 w (fun _ _ _ => rfl)⟩
theorem ErrN.form {B d : Nat} {w : World} {code : Int} {v : Value} (h : ErrN B w d code v) : ∃ (t : TypeId) (u : Value), v = .iface t u := by
  obtain ⟨t, u, _, h1, _⟩ := h
  exact ⟨t, u, h1⟩
theorem ErrN.num (B : Nat) (w : World) {n : Int} (hn : n ≠ 0) : ErrN B w 1 n (.iface 65 (.agg #[.int .i64 n])) :=
  ⟨_, _, [.num n], rfl, by simp, by simp, (fun e he => by rw [List.mem_singleton] at he; injection he with he; rw [he]; exact hn), rfl, fun W _ => ⟨rfl, rfl⟩⟩
theorem codeOf_plc (p : Int) {c : List Lk} (hc : c ≠ []) : codeOf (.plc p :: c) = codeOf c := by
  cases c with
  | nil => exact absurd rfl hc
  | cons k r => rfl
theorem codeOf_bnd (l g : Int) {c : List Lk} (hc : c ≠ []) : codeOf (.bnd l g :: c) = codeOf c := by
  cases c with
  | nil => exact absurd rfl hc
  | cons k r => rfl
/-- What fault.At and Bound make of it. -/
def MadeN (B : Nat) (w : World) (d : Nat) (code : Int) (e : Ending) (w' : World) : Prop := ∃ v, e = .returned v ∧ ErrN B w' d code v ∧ Below w.heap.size w w'
theorem errAt {B d : Nat} {w : World} {code p : Int} {v : Value} (h : ErrN B w d code v) (hB : B ≤ w.heap.size) : Calls Tryd.prog 40 #[.int .i64 p, v] w (MadeN B w (d + 1) code) := by
  obtain ⟨t, u, c, rfl, h2, h3, h4, h5, h6⟩ := h
  refine (at_some p t u w).mono ?_
  rintro e w' ⟨rfl, rfl⟩
  refine ⟨_, rfl, ⟨_, _, .plc p :: c, rfl, by simp, by simp; omega, fun e he => ?_, by rw [codeOf_plc p h2]; exact h5, fun W hW => ⟨h2, w.heap.size, _, rfl, (hW w.heap.size hB (by rw [asz]; omega)).trans (alloc_at w _), h6 W (fun b hb hl => (hW b hb (by rw [asz]; omega)).trans (Below.heap_alloc w _ b hl))⟩⟩, below_new _⟩
  rcases List.mem_cons.1 he with he | he
  · cases he
  · exact h4 e he
theorem errBound {B d : Nat} {w : World} {code l g : Int} {v : Value} (h : ErrN B w d code v) (hB : B ≤ w.heap.size) : Calls Tryd.prog 58 #[.int .i64 l, .int .i64 g, v] w (MadeN B w (d + 1) code) := by
  obtain ⟨t, u, c, rfl, h2, h3, h4, h5, h6⟩ := h
  refine (bound_some l g t u w).mono ?_
  rintro e w' ⟨rfl, rfl⟩
  refine ⟨_, rfl, ⟨_, _, .bnd l g :: c, rfl, by simp, by simp; omega, fun e he => ?_, by rw [codeOf_bnd l g h2]; exact h5, fun W hW => ⟨h2, w.heap.size, _, rfl, (hW w.heap.size hB (by rw [asz]; omega)).trans (alloc_at w _), h6 W (fun b hb hl => (hW b hb (by rw [asz]; omega)).trans (Below.heap_alloc w _ b hl))⟩⟩, below_new _⟩
  rcases List.mem_cons.1 he with he | he
  · cases he
  · exact h4 e he
set_option maxRecDepth 100000 in
set_option maxHeartbeats 2000000 in
theorem toolong_any (w : World) (B : Nat) (hB : B ≤ w.heap.size) (n : Int) : Calls Tryd.prog 49 #[.int .i64 n] w (MadeN B w 2 7) := by
  have HB := Lib.hid hB
  clear hB
  go_enter Tryd.func49, Tryd.ntmps49
  go_wp2_with fail
  refine (new_num 7 (by decide) _).mono ?_
  rintro e w1 ⟨rfl, rfl⟩
  go_wp2_with fail
  refine (errBound (ErrN.num B w (n := 7) (by decide)) HB.out).mono ?_
  rintro e w1 ⟨v, rfl, h1, h2⟩
  have H1 := Lib.hid h1
  have H2 := Lib.hid h2
  clear h1 h2
  go_wp2_with fail
  refine bodyPost_ret (v := v) (by simp [results, Tryd.results49, go_sem]) rfl ⟨v, rfl, H1.out, H2.out⟩
/-- A cell of a slice of numbers. -/
theorem SIs.at {w : World} {A : Option Addr} {n cap : Nat} {l : List Int} (h : SIs w (.slice A n cap) l) {i : Nat} {x : Int} (hx : l[i]? = some x) : ∃ a : Addr, A = some a ∧ a.block < w.heap.size ∧ w.cell? (a.add i) = some (.int .i64 x) := by
  obtain ⟨_, _, e', _, _, hc⟩ := h
  injection e' with e1 _ e3
  subst e1 e3
  exact hc i x hx
theorem SIs.form {w : World} {v : Value} {l : List Int} (h : SIs w v l) : ∃ A cap, v = .slice A l.length cap ∧ l.length ≤ cap ∧ cap ≤ maxLen := by
  obtain ⟨A, cap, e, h1, h2, _⟩ := h
  exact ⟨A, cap, e, h1, h2⟩
set_option maxRecDepth 100000 in
set_option maxHeartbeats 2000000 in
theorem windex_any {w : World} {v : Value} {l : List Int} {x : Int} (h : SIs w v l) (hl : l.length ≤ 1000000000) : Calls Tryd.prog 63 #[v, .int .i64 x] w fun e w' => e = .returned (.int .i64 (idxI l x)) ∧ w' = w := by
  obtain ⟨A, cap, rfl, h1, h2⟩ := h.form
  unfold maxLen at h2
  have HH := Lib.hid h
  have hl' : (l.length : Int) ≤ 1000000000 := by omega
  clear h
  go_enter Tryd.func63, Tryd.ntmps63
  go_wp2_with fail
  go_loopw [8] (fun iv wr => ∃ k : Nat, k ≤ l.length ∧ iv = .int .i64 k ∧ wr = w ∧ x ∉ l.take k) (fun iv _ => l.length - (intOf iv).toNat)
  case atStart => exact ⟨0, Nat.zero_le _, rfl, rfl, by simp⟩
  case round =>
    obtain ⟨k, hk, rfl, rfl, hno⟩ := hrel
    have HNO := Lib.hid hno
    by_cases hlt : k < l.length
    · have hx : l[k]? = some l[k] := List.getElem?_eq_getElem hlt
      have HTK : Hid (l.take (k + 1) = l.take k ++ [l[k]]) := Lib.hid (List.take_succ_eq_append_getElem hlt)
      generalize l[k] = y at hx HTK
      obtain ⟨a, rfl, _, kc⟩ := HH.out.at hx
      have hi : (k : Int) < (l.length : Int) := by omega
      have HLT := Lib.hid hlt
      by_cases he : y = x
      · subst he
        have hb : (y == y) = true := beq_self_eq_true y
        have HE : Hid (idxI l y = (k : Int)) := Lib.hid (by unfold idxI; rw [if_pos (List.mem_of_getElem? hx), idx_first hx hno])
        clear hx hno hk
        go_wp2_with fail
        refine bodyPost_ret (v := .int .i64 k) (by simp [results, Tryd.results63, go_sem]) rfl ⟨by rw [HE.out], rfl⟩
      · have hb : (x == y) = false := by rw [beq_eq_false_iff_ne]; exact fun e => he e.symm
        have HE := Lib.hid he
        clear hx hno hk he
        go_wp2_with fail
        go_roundw
        case rel => exact ⟨k + 1, HLT.out, by go_num, by first | rfl | trivial, by rw [HTK.out, List.mem_append, List.mem_singleton]; exact fun h => h.elim HNO.out (fun h => HE.out h.symm)⟩
        case measure => have := HLT.out; simp [intOf]; omega
    · obtain rfl : k = l.length := by omega
      have HE : Hid (idxI l x = -1) := Lib.hid (by have := hno; rw [List.take_length] at this; unfold idxI; rw [if_neg this])
      clear hlt hk hno
      go_wp2_with fail
      refine bodyPost_ret (v := .int .i64 (-1)) (by simp [results, Tryd.results63, go_sem]) rfl ⟨by rw [HE.out], rfl⟩
set_option maxRecDepth 100000 in
set_option maxHeartbeats 2000000 in
theorem wcontains_any {w : World} {v : Value} {l : List Int} {x : Int} (h : SIs w v l) (hl : l.length ≤ 1000000000) : Calls Tryd.prog 59 #[v, .int .i64 x] w fun e w' => e = .returned (.bool (decide (x ∈ l))) ∧ w' = w := by
  have HI := Lib.hid (windex_any (x := x) h hl)
  clear h hl
  obtain ⟨b, hb⟩ : ∃ b, decide (x ∈ l) = b := ⟨_, rfl⟩
  obtain ⟨z, hz⟩ : ∃ z, idxI l x = z := ⟨_, rfl⟩
  have hzb : decide (0 ≤ z) = b := by
    rw [← hb, ← hz]
    unfold idxI
    by_cases hx : x ∈ l
    · rw [if_pos hx]; simp [hx]
    · rw [if_neg hx]; simp [hx]
  rw [hz] at HI
  have HBE := Lib.hid hb
  clear hb hz
  go_enter Tryd.func59, Tryd.ntmps59
  go_wp2_with fail
  refine (HI.out).mono ?_
  rintro e w1 ⟨rfl, rfl⟩
  go_wp2_with fail
  refine bodyPost_ret (v := .bool b) (by simp [results, Tryd.results59, go_sem, hzb]) rfl ⟨by rw [HBE.out], rfl⟩
end Go.Proofs.YtpploljennbpdaaDoor
