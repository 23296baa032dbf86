/- The tape: burn, change, fits, grown. The tape: fits, grown. The tape: grown; Append's inner function. The tape: Append's inner function. -/
import Derived.Test.YtnegnokielmgkaaGreatDoorZTapD
set_option linter.unusedSimpArgs false
set_option linter.unusedVariables false
set_option linter.unnecessarySimpa false
namespace Go.Proofs.YtnegnokielmgkaaGreatDoor
open Go.RowKit
open Go.Maps (Keyed)

theorem setCell_size (w : World) (a : Addr) (v : Value) : (w.setCell a v).heap.size = w.heap.size := by simp [World.setCell]
theorem touch_set (w : World) (t i : Nat) (v : Value) : Touch (· = t) w (w.setCell ⟨t, i, none⟩ v) := (Touch.refl (· = t) w).setCell ⟨t, i, none⟩ (fun _ => rfl) v
section
variable {w : World} {t : Nat} {T : Tp}
theorem TapeAt.setDown (h : TapeAt w t T) : TapeAt (w.setCell ⟨t, 4, none⟩ (.bool true)) t { T with down := true } :=
  h.turn (room := T.room) (left := T.left) (fused := T.fused) (down := true) (Nat.le_of_eq (setCell_size _ _ _).symm) (fun k _ hk => Below.heap_setCell _ _ _ _ hk) (set_at h.head 4 _) h.room h.left
theorem TapeAt.setLeft (h : TapeAt w t T) (n : Nat) (hn : n ≤ 9223372036854775807) : TapeAt (w.setCell ⟨t, 3, none⟩ (.int .i64 (n : Int))) t { T with left := n } :=
  h.turn (room := T.room) (left := n) (fused := T.fused) (down := T.down) (Nat.le_of_eq (setCell_size _ _ _).symm) (fun k _ hk => Below.heap_setCell _ _ _ _ hk) (set_at h.head 3 _) h.room hn
theorem TapeAt.setRoom (h : TapeAt w t T) (n : Nat) (hn : n ≤ 1048576) : TapeAt (w.setCell ⟨t, 1, none⟩ (.int .i64 (n : Int))) t { T with room := n } :=
  h.turn (room := n) (left := T.left) (fused := T.fused) (down := T.down) (Nat.le_of_eq (setCell_size _ _ _).symm) (fun k _ hk => Below.heap_setCell _ _ _ _ hk) (set_at h.head 1 _) hn h.left
end
/-- Has the fuse no change left? -/
def spent (T : Tp) : Bool := T.fused && T.left == 0
def burnt (T : Tp) : Tp := if T.fused then { T with left := T.left - 1 } else T
def burntW (w : World) (t : Nat) (T : Tp) : World := if T.fused then w.setCell ⟨t, 3, none⟩ (.int .i64 ((T.left - 1 : Nat) : Int)) else w
theorem burntW_at {w : World} {t : Nat} {T : Tp} (h : TapeAt w t T) : TapeAt (burntW w t T) t (burnt T) ∧ Touch (· = t) w (burntW w t T) ∧ (burntW w t T).heap.size = w.heap.size := by
  unfold burntW burnt
  have := h.left
  split
  · exact ⟨h.setLeft _ (by omega), touch_set _ _ _ _, setCell_size _ _ _⟩
  · exact ⟨h, .refl _ _, rfl⟩

set_option maxRecDepth 100000 in
theorem burn_ok {w : World} {t : Nat} {T : Tp} (hT : TapeAt w t T) (hs : spent T = false) : Calls Tryz.prog 88 #[.pointer (some ⟨t, 0, none⟩)] w fun e w' => e = .returned .nilIface ∧ burntW w t T = w' := by
  have hc2 : w.cell? ⟨t, 2, none⟩ = some (.bool T.fused) := cell_of hT.head 2
  have hc3 : w.cell? ⟨t, 3, none⟩ = some (.int .i64 (T.left : Int)) := cell_of hT.head 3
  have hf3 : w.frozen? ⟨t, 3, none⟩ = false := free0 hT.head 3
  have hlt := heap_lt hT.head
  have hl := hT.left
  unfold burntW
  clear hT
  cases hf : T.fused with
  | false =>
    rw [hf] at hc2
    clear hs hf
    go_enter Tryz.func88, Tryz.ntmps88
    go_wp2_with fail
    go_ret
    exact ⟨rfl, rfl⟩
  | true =>
    rw [hf] at hc2
    have h0 : 1 ≤ T.left := by
      unfold spent at hs
      rw [hf] at hs
      simp at hs
      omega
    have q1 : ((T.left : Int) == 0) = false := by rw [beq_eq_false_iff_ne]; omega
    have q2 : ((T.left - 1 : Nat) : Int) = (T.left : Int) - 1 := by omega
    rw [q2]
    clear hs hf q2
    go_enter Tryz.func88, Tryz.ntmps88
    go_wp2_with fail
    go_ret
    exact ⟨rfl, rfl⟩
set_option maxRecDepth 100000 in
theorem burn_no {w : World} {t : Nat} {T : Tp} (hT : TapeAt w t T) (hs : spent T = true) : Calls Tryz.prog 88 #[.pointer (some ⟨t, 0, none⟩)] w fun e w' => ∃ v, e = .returned v ∧ ErrP 8 (w.setCell ⟨t, 4, none⟩ (.bool true)) v w' := by
  have hc2 : w.cell? ⟨t, 2, none⟩ = some (.bool T.fused) := cell_of hT.head 2
  have hc3 : w.cell? ⟨t, 3, none⟩ = some (.int .i64 (T.left : Int)) := cell_of hT.head 3
  have hf4 : w.frozen? ⟨t, 4, none⟩ = false := free0 hT.head 4
  have hc4 : w.cell? ⟨t, 4, none⟩ = some (.bool T.down) := cell_of hT.head 4
  have hlt := heap_lt hT.head
  obtain ⟨hf, h0⟩ : T.fused = true ∧ T.left = 0 := by
    unfold spent at hs
    simpa using hs
  rw [hf] at hc2
  rw [h0] at hc3
  have HN := Lib.hid (new_any 8 (w.setCell ⟨t, 4, none⟩ (.bool true)))
  clear hT hs hf h0
  go_enter Tryz.func88, Tryz.ntmps88
  go_wp2_with fail
  refine (HN.out).mono ?_
  rintro e w1 ⟨v1, rfl, he1, hb1⟩
  have HA := Lib.hid (in_any ⟨#[102, 117, 115, 101]⟩ he1)
  have HB1 := Lib.hid hb1
  clear he1 hb1
  go_wp2_with fail
  refine (HA.out).mono ?_
  rintro e w2 ⟨v2, rfl, he2, hb2⟩
  have H2 : Hid (ErrP 8 (w.setCell ⟨t, 4, none⟩ (.bool true)) v2 w2) := .of _ he2 (HB1.out.trans (hb2.mono HB1.out.size)) rfl (by simp [newL, onto_cons]) (by decide) (.cons rfl (numOk_one (by decide))) (by simp [newL, onto_cons])
  clear he2 hb2
  go_wp2
  go_ret
  exact ⟨_, rfl, H2.out⟩

/-- An error of that number, behind In. -/
def ErrQ (E : Int) (w : World) (v : Value) (w' : World) : Prop := ∃ c, ErrIs w' c v ∧ codeOf c = E ∧ (E = 0 → c = []) ∧ NumOk c ∧ c.length < 200 ∧ Below w.heap.size w w'
theorem ErrQ.form {E : Int} {w w' : World} {v : Value} (h : ErrQ E w v w') (hE : E ≠ 0) : ∃ t u, v = .iface t u := by
  obtain ⟨c, h1, h2, _⟩ := h
  cases c with
  | nil => exact absurd h2.symm hE
  | cons k r => exact h1.form1
theorem ErrQ.below {E : Int} {w w' : World} {v : Value} (h : ErrQ E w v w') : Below w.heap.size w w' := by
  obtain ⟨_, _, _, _, _, _, h⟩ := h
  exact h
theorem ErrQ.nil {w w' : World} {v : Value} (h : ErrQ 0 w v w') : v = .nilIface := by
  obtain ⟨c, h1, _, h3, _, _, h6⟩ := h
  rw [h3 rfl] at h1
  exact h1
theorem code_ofQ {E : Int} {w w1 W : World} {v : Value} (hG : Glob w) (h : ErrQ E w v w1) (hW : Below w1.heap.size w1 W) : Calls Tryz.prog 54 #[v] W fun e w' => e = .returned (.int .i64 E) ∧ Below W.heap.size W w' := by
  obtain ⟨c, h1, rfl, _, h4, h5, h6⟩ := h
  exact code_any (hG.below h6) h1 h4 (by omega) hW
theorem code_nil {W : World} (hG : Glob W) : Calls Tryz.prog 54 #[.nilIface] W fun e w' => e = .returned (.int .i64 0) ∧ Below W.heap.size W w' :=
  code_of hG (.none W) (Below.refl _ _)
/-- In of an error, or of none. -/
theorem in_err {E : Int} {w0 w W : World} {v : Value} (s : ByteArray) (h : ErrP E w0 v w) (hW : Below w.heap.size w W) : Calls Tryz.prog 60 #[.string s, v] W fun e w' => ∃ v', e = .returned v' ∧ ErrQ E w0 v' w' ∧ Below W.heap.size W w' := by
  obtain ⟨c, h1, h2, h3, h4, h5, h6⟩ := h.ahead hW
  refine (in_any s h1).mono ?_
  rintro e w' ⟨v', rfl, he, hb⟩
  cases c with
  | nil => exact ⟨v', rfl, ⟨[], he, h2, fun _ => rfl, h4, by decide, h6.trans (hb.mono h6.size)⟩, hb⟩
  | cons k r =>
    have hE : E ≠ 0 := fun h => by cases h3 h
    refine ⟨v', rfl, ⟨.nam s :: k :: r, he, ?_, fun h => absurd h hE, .cons rfl h4, ?_, h6.trans (hb.mono h6.size)⟩, hb⟩
    · rw [← h2]; rfl
    · simp only [List.length_cons] at h5 ⊢
      omega

set_option maxRecDepth 100000 in
theorem change_err {E : Int} {w0 w W : World} {v f : Value} {p : Value} (hG : Glob w0) (h : ErrQ E w0 v w) (hE : E ≠ 0) (hW : Below w.heap.size w W) : Calls Tryz.prog 59 #[p, v, f] W fun e w' => e = .returned (.int .i64 E) ∧ Below W.heap.size W w' := by
  have HC := Lib.hid (code_ofQ hG h hW)
  obtain ⟨t, u, rfl⟩ := h.form hE
  clear h hE hG hW
  go_enter Tryz.func59, Tryz.ntmps59
  go_wp2_with fail
  refine (HC.out).mono ?_
  rintro e w2 ⟨rfl, hb⟩
  have HB := Lib.hid hb
  clear hb
  go_wp2
  go_ret
  exact ⟨rfl, HB.out⟩
set_option maxRecDepth 100000 in
theorem change_dead {w : World} {t : Nat} {T : Tp} {f : Value} (hG : Glob w) (hT : TapeAt w t T) (hs : spent T = true) (hg : 0 ≠ t) : Calls Tryz.prog 59 #[.pointer (some ⟨t, 0, none⟩), .nilIface, f] w fun e w' => e = .returned (.int .i64 8) ∧ TapeAt w' t { T with down := true } ∧ Touch (· = t) w w' := by
  have HB := Lib.hid (burn_no hT hs)
  have HT := Lib.hid hT.setDown
  have HG : Hid (Glob (w.setCell ⟨t, 4, none⟩ (.bool true))) := (World.cell?_of_block (a := ⟨0, 0, none⟩) (Below.heap_setCell _ _ _ _ hg)).trans hG
  clear hT hs hG
  go_enter Tryz.func59, Tryz.ntmps59
  go_wp2_with fail
  refine (HB.out).mono ?_
  rintro e w1 ⟨v1, rfl, h1⟩
  have HC := Lib.hid (code_of HG.out h1 (Below.refl _ _))
  have HB1 := Lib.hid h1.below
  obtain ⟨t', u, rfl⟩ := h1.form (by decide)
  clear h1
  go_wp2_with fail
  refine (HC.out).mono ?_
  rintro e w2 ⟨rfl, hb2⟩
  have HB2 := Lib.hid (HB1.out.trans (hb2.mono HB1.out.size))
  clear hb2
  go_wp2
  go_ret
  exact ⟨rfl, HT.out.below HB2.out, (touch_set w t 4 _).after HB2.out⟩
set_option maxRecDepth 100000 in
theorem change_app {w : World} {t : Nat} {T : Tp} {a0 a1 a2 : Nat} (hG : Glob w) (hT : TapeAt w t T) (hs : spent T = false) (hg : 0 ≠ t) (D : World → Prop) (hD : ∀ W W', D W → Below W.heap.size W W' → D W') (hDG : ∀ W, D W → Glob W)
    (hdo : Calls Tryz.prog 61 #[.pointer (some ⟨a0, 0, none⟩), .pointer (some ⟨a1, 0, none⟩), .pointer (some ⟨a2, 0, none⟩)] (burntW w t T) fun e w' => e = .returned (.tuple #[]) ∧ D w') :
    Calls Tryz.prog 59 #[.pointer (some ⟨t, 0, none⟩), .nilIface, .func (.func 61) #[] #[.pointer (some ⟨a0, 0, none⟩), .pointer (some ⟨a1, 0, none⟩), .pointer (some ⟨a2, 0, none⟩)]] w fun e w' => e = .returned (.int .i64 0) ∧ D w' := by
  have HB := Lib.hid (burn_ok hT hs)
  have HDO := Lib.hid hdo
  have HD := Lib.hid hD
  have HDG := Lib.hid hDG
  clear hT hs hG hdo hD hDG
  go_enter Tryz.func59, Tryz.ntmps59
  go_wp2_with fail
  refine (HB.out).mono ?_
  rintro e w1 ⟨rfl, rfl⟩
  go_wp2_with fail
  refine (HDO.out).mono ?_
  rintro e w2 ⟨rfl, hd⟩
  have HC := Lib.hid (code_nil (HDG.out _ hd))
  have HD2 := Lib.hid hd
  clear hd
  go_wp2_with fail
  refine (HC.out).mono ?_
  rintro e w3 ⟨rfl, hb3⟩
  have HD3 := Lib.hid (HD.out _ _ HD2.out hb3)
  clear hb3
  go_wp2
  go_ret
  exact ⟨rfl, HD3.out⟩
set_option maxRecDepth 100000 in
theorem change_sync {w : World} {t : Nat} {T : Tp} {a0 : Nat} (hG : Glob w) (hT : TapeAt w t T) (hs : spent T = false) (hg : 0 ≠ t) (D : World → Prop) (hD : ∀ W W', D W → Below W.heap.size W W' → D W') (hDG : ∀ W, D W → Glob W)
    (hdo : Calls Tryz.prog 76 #[.pointer (some ⟨a0, 0, none⟩)] (burntW w t T) fun e w' => e = .returned (.tuple #[]) ∧ D w') :
    Calls Tryz.prog 59 #[.pointer (some ⟨t, 0, none⟩), .nilIface, .func (.func 76) #[] #[.pointer (some ⟨a0, 0, none⟩)]] w fun e w' => e = .returned (.int .i64 0) ∧ D w' := by
  have HB := Lib.hid (burn_ok hT hs)
  have HDO := Lib.hid hdo
  have HD := Lib.hid hD
  have HDG := Lib.hid hDG
  clear hT hs hG hdo hD hDG
  go_enter Tryz.func59, Tryz.ntmps59
  go_wp2_with fail
  refine (HB.out).mono ?_
  rintro e w1 ⟨rfl, rfl⟩
  go_wp2_with fail
  refine (HDO.out).mono ?_
  rintro e w2 ⟨rfl, hd⟩
  have HC := Lib.hid (code_nil (HDG.out _ hd))
  have HD2 := Lib.hid hd
  clear hd
  go_wp2_with fail
  refine (HC.out).mono ?_
  rintro e w3 ⟨rfl, hb3⟩
  have HD3 := Lib.hid (HD.out _ _ HD2.out hb3)
  clear hb3
  go_wp2
  go_ret
  exact ⟨rfl, HD3.out⟩
set_option maxRecDepth 100000 in
theorem change_trim {w : World} {t : Nat} {T : Tp} {a0 a1 : Nat} (hG : Glob w) (hT : TapeAt w t T) (hs : spent T = false) (hg : 0 ≠ t) (D : World → Prop) (hD : ∀ W W', D W → Below W.heap.size W W' → D W') (hDG : ∀ W, D W → Glob W)
    (hdo : Calls Tryz.prog 77 #[.pointer (some ⟨a0, 0, none⟩), .pointer (some ⟨a1, 0, none⟩)] (burntW w t T) fun e w' => e = .returned (.tuple #[]) ∧ D w') :
    Calls Tryz.prog 59 #[.pointer (some ⟨t, 0, none⟩), .nilIface, .func (.func 77) #[] #[.pointer (some ⟨a0, 0, none⟩), .pointer (some ⟨a1, 0, none⟩)]] w fun e w' => e = .returned (.int .i64 0) ∧ D w' := by
  have HB := Lib.hid (burn_ok hT hs)
  have HDO := Lib.hid hdo
  have HD := Lib.hid hD
  have HDG := Lib.hid hDG
  clear hT hs hG hdo hD hDG
  go_enter Tryz.func59, Tryz.ntmps59
  go_wp2_with fail
  refine (HB.out).mono ?_
  rintro e w1 ⟨rfl, rfl⟩
  go_wp2_with fail
  refine (HDO.out).mono ?_
  rintro e w2 ⟨rfl, hd⟩
  have HC := Lib.hid (code_nil (HDG.out _ hd))
  have HD2 := Lib.hid hd
  clear hd
  go_wp2_with fail
  refine (HC.out).mono ?_
  rintro e w3 ⟨rfl, hb3⟩
  have HD3 := Lib.hid (HD.out _ _ HD2.out hb3)
  clear hb3
  go_wp2
  go_ret
  exact ⟨rfl, HD3.out⟩
set_option maxRecDepth 100000 in
theorem change_drop {w : World} {t : Nat} {T : Tp} {a0 a1 : Nat} (hG : Glob w) (hT : TapeAt w t T) (hs : spent T = false) (hg : 0 ≠ t) (D : World → Prop) (hD : ∀ W W', D W → Below W.heap.size W W' → D W') (hDG : ∀ W, D W → Glob W)
    (hdo : Calls Tryz.prog 78 #[.pointer (some ⟨a0, 0, none⟩), .pointer (some ⟨a1, 0, none⟩)] (burntW w t T) fun e w' => e = .returned (.tuple #[]) ∧ D w') :
    Calls Tryz.prog 59 #[.pointer (some ⟨t, 0, none⟩), .nilIface, .func (.func 78) #[] #[.pointer (some ⟨a0, 0, none⟩), .pointer (some ⟨a1, 0, none⟩)]] w fun e w' => e = .returned (.int .i64 0) ∧ D w' := by
  have HB := Lib.hid (burn_ok hT hs)
  have HDO := Lib.hid hdo
  have HD := Lib.hid hD
  have HDG := Lib.hid hDG
  clear hT hs hG hdo hD hDG
  go_enter Tryz.func59, Tryz.ntmps59
  go_wp2_with fail
  refine (HB.out).mono ?_
  rintro e w1 ⟨rfl, rfl⟩
  go_wp2_with fail
  refine (HDO.out).mono ?_
  rintro e w2 ⟨rfl, hd⟩
  have HC := Lib.hid (code_nil (HDG.out _ hd))
  have HD2 := Lib.hid hd
  clear hd
  go_wp2_with fail
  refine (HC.out).mono ?_
  rintro e w3 ⟨rfl, hb3⟩
  have HD3 := Lib.hid (HD.out _ _ HD2.out hb3)
  clear hb3
  go_wp2
  go_ret
  exact ⟨rfl, HD3.out⟩
end Go.Proofs.YtnegnokielmgkaaGreatDoor

namespace Go.Proofs.YtnegnokielmgkaaGreatDoor
open Go.RowKit
open Go.Maps (Keyed)

theorem run_tape_hit {w : World} {mo : Option Nat} {L : List Ent} {c : Nat} (h : MapPart w mo L c) {n : Int} (hn : nameB n = true) {j : Nat} {e : Ent} (hj : L[j]? = some e) (he : e.n = n) : (Instr.lookup 75 (.map mo) (.int .i64 n) false).run Tryz.prog w = .ok (.pointer (some ⟨e.sb, 0, none⟩)) w := by
  cases mo with
  | none =>
    have h : L = [] := h
    rw [h] at hj
    cases hj
  | some r => exact (h : MapIs _ _ w r (L.map Ent.me) c).look_hit keyed Tryz.underlying75 (key_int hn) (me_at hj) (by rw [← he]; rfl) false
theorem run_tape_miss {w : World} {mo : Option Nat} {L : List Ent} {c : Nat} (h : MapPart w mo L c) {n : Int} (hn : nameB n = true) (hL : ∀ e ∈ L, e.n ≠ n) : (Instr.lookup 75 (.map mo) (.int .i64 n) false).run Tryz.prog w = .ok (.pointer none) w := by
  cases mo with
  | none => exact Go.Maps.look_nil (w := w) false keyed Tryz.underlying75 (zeroPtr w) (key_int hn)
  | some r => exact (h : MapIs _ _ w r (L.map Ent.me) c).look_miss keyed Tryz.underlying75 (zeroPtr w) (key_int hn) (me_miss hL) false

set_option maxRecDepth 100000 in
set_option maxHeartbeats 1000000 in
theorem fits_full {w : World} {t : Nat} {T : Tp} {v : Value} {ls : List (List UInt8)} {seg : Int} (hT : TapeAt w t T) (h : PIs w v ls) (hl : ls.flatten.length ≤ 1073741824) (hd : T.room - used T.L < ls.flatten.length) :
    Calls Tryz.prog 58 #[.pointer (some ⟨t, 0, none⟩), .int .i64 seg, v] w fun e w' => ∃ v, e = .returned v ∧ ErrP 5 w v w' := by
  have HF := Lib.hid (fun W (hW : Below w.heap.size w W) => free_any (hT.below hW))
  have HMP := Lib.hid (fun W (hW : Below w.heap.size w W) => (hT.below hW).map)
  have HC0 := Lib.hid (fun W (hW : Below w.heap.size w W) => (cell_of (hT.below hW).head 0 : W.cell? ⟨t, 0, none⟩ = some (.map T.m)))
  obtain ⟨A, cap, rfl, h1, h2, h3⟩ := h
  unfold maxLen at h2
  have H3 := Lib.hid h3
  have h2' : ls.length ≤ 9223372036854775807 := by omega
  have HL := Lib.hid hl
  clear h3 hl hT
  go_enter Tryz.func58, Tryz.ntmps58
  go_wp2_with fail
  go_loopw [7, 14] (fun s i wr => ∃ k : Nat, k ≤ ls.length ∧ i = .int .i64 k ∧ s = .int .i64 (tot ls k : Nat) ∧ w = wr) (fun _ i _ => ls.length - (intOf i).toNat)
  case atStart => exact ⟨0, by omega, rfl, rfl, rfl⟩
  case round =>
    obtain ⟨k, hk, rfl, rfl, rfl⟩ := hrel
    by_cases hlt : k < ls.length
    · obtain ⟨a, x, rfl, hab, hcx, hB⟩ := H3.out k ls[k] (List.getElem?_eq_getElem hlt)
      obtain ⟨B, cx, rfl, g1, g2, g3⟩ := hB
      have e1 := flat_take hlt
      have e2 : tot ls (k + 1) ≤ ls.flatten.length := flat_le (ls := ls) (k + 1)
      have e3 := HL.out
      have HE : Hid ((tot ls (k + 1) : Int) = (tot ls k : Int) + (ls[k].length : Int)) := by
        show _ = _
        unfold tot
        rw [e1, List.length_append]; omega
      have q1 : (tot ls k : Int) + (ls[k].length : Int) ≤ 1073741824 := by have := HE.out; omega
      clear e1 e2 e3 g3
      go_wp2_with fail
      go_roundw
      case rel => exact ⟨k + 1, by omega, by go_num, by rw [HE.out], by first | rfl | trivial⟩
      case measure => simp [intOf]; omega
    · obtain rfl : k = ls.length := by omega
      have hT0 : tot ls ls.length = ls.flatten.length := by unfold tot; rw [List.take_length]
      rw [hT0]
      have HFF := Lib.hid (HF.out _ (Below.refl _ _))
      have hd30 : (ls.flatten.length : Int) ≤ 1073741824 := by have := HL.out; omega
      clear hT0
      generalize ls.flatten.length = d at *
      go_wp2_with fail
      refine (HFF.out).mono ?_
      rintro e w1 ⟨rfl, hb1⟩
      have HB1 := Lib.hid hb1
      have hc0 := HC0.out _ hb1
      have HM1 := Lib.hid (HMP.out _ hb1)
      clear hb1
      generalize T.room - used T.L = fr at *
      have q1 : (fr : Int) < (d : Int) := by omega
      have HN := Lib.hid (new_any 5 w1)
      go_wp2_with fail
      refine (HN.out).mono ?_
      rintro e w2 ⟨v2, rfl, he2, hb2⟩
      have HA := Lib.hid (at_any seg he2)
      have HB2 := Lib.hid (HB1.out.trans (hb2.mono HB1.out.size))
      clear he2 hb2
      go_wp2_with fail
      refine (HA.out).mono ?_
      rintro e w3 ⟨v3, rfl, he3, hb3⟩
      have HBD := Lib.hid (bound_any (fr : Int) (d : Int) he3)
      have HB3 := Lib.hid (HB2.out.trans (hb3.mono HB2.out.size))
      clear he3 hb3
      go_wp2_with fail
      refine (HBD.out).mono ?_
      rintro e w4 ⟨v4, rfl, he4, hb4⟩
      have H4 : Hid (ErrP 5 w v4 w4) := .of _ he4 (HB3.out.trans (hb4.mono HB3.out.size)) rfl (by simp [newL, onto_cons]) (by decide) (.cons rfl (.cons rfl (numOk_one (by decide)))) (by simp [newL, onto_cons])
      clear he4 hb4
      go_wp2
      go_ret
      exact ⟨_, rfl, H4.out⟩
set_option maxRecDepth 100000 in
set_option maxHeartbeats 1000000 in
theorem fits_many {w : World} {t : Nat} {T : Tp} {v : Value} {ls : List (List UInt8)} {seg : Int} (hT : TapeAt w t T) (h : PIs w v ls) (hl : ls.flatten.length ≤ 1073741824) (hd : ls.flatten.length ≤ T.room - used T.L) (hn : nameB seg = true) (hL : ∀ e ∈ T.L, e.n ≠ seg) (h64 : 64 ≤ T.L.length) :
    Calls Tryz.prog 58 #[.pointer (some ⟨t, 0, none⟩), .int .i64 seg, v] w fun e w' => ∃ v, e = .returned v ∧ ErrP 5 w v w' := by
  have HF := Lib.hid (fun W (hW : Below w.heap.size w W) => free_any (hT.below hW))
  have HMP := Lib.hid (fun W (hW : Below w.heap.size w W) => (hT.below hW).map)
  have HC0 := Lib.hid (fun W (hW : Below w.heap.size w W) => (cell_of (hT.below hW).head 0 : W.cell? ⟨t, 0, none⟩ = some (.map T.m)))
  obtain ⟨A, cap, rfl, h1, h2, h3⟩ := h
  unfold maxLen at h2
  have H3 := Lib.hid h3
  have h2' : ls.length ≤ 9223372036854775807 := by omega
  have HL := Lib.hid hl
  have HN0 := Lib.hid hn
  have HLL := Lib.hid hL
  have h64b := hT.few
  clear hn hL
  clear h3 hl hT
  go_enter Tryz.func58, Tryz.ntmps58
  go_wp2_with fail
  go_loopw [7, 14] (fun s i wr => ∃ k : Nat, k ≤ ls.length ∧ i = .int .i64 k ∧ s = .int .i64 (tot ls k : Nat) ∧ w = wr) (fun _ i _ => ls.length - (intOf i).toNat)
  case atStart => exact ⟨0, by omega, rfl, rfl, rfl⟩
  case round =>
    obtain ⟨k, hk, rfl, rfl, rfl⟩ := hrel
    by_cases hlt : k < ls.length
    · obtain ⟨a, x, rfl, hab, hcx, hB⟩ := H3.out k ls[k] (List.getElem?_eq_getElem hlt)
      obtain ⟨B, cx, rfl, g1, g2, g3⟩ := hB
      have e1 := flat_take hlt
      have e2 : tot ls (k + 1) ≤ ls.flatten.length := flat_le (ls := ls) (k + 1)
      have e3 := HL.out
      have HE : Hid ((tot ls (k + 1) : Int) = (tot ls k : Int) + (ls[k].length : Int)) := by
        show _ = _
        unfold tot
        rw [e1, List.length_append]; omega
      have q1 : (tot ls k : Int) + (ls[k].length : Int) ≤ 1073741824 := by have := HE.out; omega
      clear e1 e2 e3 g3
      go_wp2_with fail
      go_roundw
      case rel => exact ⟨k + 1, by omega, by go_num, by rw [HE.out], by first | rfl | trivial⟩
      case measure => simp [intOf]; omega
    · obtain rfl : k = ls.length := by omega
      have hT0 : tot ls ls.length = ls.flatten.length := by unfold tot; rw [List.take_length]
      rw [hT0]
      have HFF := Lib.hid (HF.out _ (Below.refl _ _))
      have hd30 : (ls.flatten.length : Int) ≤ 1073741824 := by have := HL.out; omega
      clear hT0
      generalize ls.flatten.length = d at *
      go_wp2_with fail
      refine (HFF.out).mono ?_
      rintro e w1 ⟨rfl, hb1⟩
      have HB1 := Lib.hid hb1
      have hc0 := HC0.out _ hb1
      have HM1 := Lib.hid (HMP.out _ hb1)
      clear hb1
      generalize T.room - used T.L = fr at *
      have q1 : ¬ (fr : Int) < (d : Int) := by omega
      have q2 : (64 : Int) ≤ (T.L.length : Int) := by omega
      have hlk := run_tape_miss HM1.out HN0.out HLL.out
      go_wp2_with (first | (at_len; refine wpList_tape_len _ rfl _ rfl HM1.out rfl ?_))
      have HN := Lib.hid (new_any 5 w1)
      refine (HN.out).mono ?_
      rintro e w2 ⟨v2, rfl, he2, hb2⟩
      have HA := Lib.hid (at_any seg he2)
      have HB2 := Lib.hid (HB1.out.trans (hb2.mono HB1.out.size))
      clear he2 hb2
      go_wp2_with fail
      refine (HA.out).mono ?_
      rintro e w3 ⟨v3, rfl, he3, hb3⟩
      have HBD := Lib.hid (bound_any (64 : Int) (T.L.length : Int) he3)
      have HB3 := Lib.hid (HB2.out.trans (hb3.mono HB2.out.size))
      clear he3 hb3
      go_wp2_with fail
      refine (HBD.out).mono ?_
      rintro e w4 ⟨v4, rfl, he4, hb4⟩
      have H4 : Hid (ErrP 5 w v4 w4) := .of _ he4 (HB3.out.trans (hb4.mono HB3.out.size)) rfl (by simp [newL, onto_cons]) (by decide) (.cons rfl (.cons rfl (numOk_one (by decide)))) (by simp [newL, onto_cons])
      clear he4 hb4
      go_wp2
      go_ret
      exact ⟨_, rfl, H4.out⟩
set_option maxRecDepth 100000 in
set_option maxHeartbeats 1000000 in
theorem fits_few {w : World} {t : Nat} {T : Tp} {v : Value} {ls : List (List UInt8)} {seg : Int} (hT : TapeAt w t T) (h : PIs w v ls) (hl : ls.flatten.length ≤ 1073741824) (hd : ls.flatten.length ≤ T.room - used T.L) (h64 : T.L.length < 64) :
    Calls Tryz.prog 58 #[.pointer (some ⟨t, 0, none⟩), .int .i64 seg, v] w fun e w' => ∃ v, e = .returned v ∧ ErrP 0 w v w' := by
  have HF := Lib.hid (fun W (hW : Below w.heap.size w W) => free_any (hT.below hW))
  have HMP := Lib.hid (fun W (hW : Below w.heap.size w W) => (hT.below hW).map)
  have HC0 := Lib.hid (fun W (hW : Below w.heap.size w W) => (cell_of (hT.below hW).head 0 : W.cell? ⟨t, 0, none⟩ = some (.map T.m)))
  obtain ⟨A, cap, rfl, h1, h2, h3⟩ := h
  unfold maxLen at h2
  have H3 := Lib.hid h3
  have h2' : ls.length ≤ 9223372036854775807 := by omega
  have HL := Lib.hid hl
  clear h3 hl hT
  go_enter Tryz.func58, Tryz.ntmps58
  go_wp2_with fail
  go_loopw [7, 14] (fun s i wr => ∃ k : Nat, k ≤ ls.length ∧ i = .int .i64 k ∧ s = .int .i64 (tot ls k : Nat) ∧ w = wr) (fun _ i _ => ls.length - (intOf i).toNat)
  case atStart => exact ⟨0, by omega, rfl, rfl, rfl⟩
  case round =>
    obtain ⟨k, hk, rfl, rfl, rfl⟩ := hrel
    by_cases hlt : k < ls.length
    · obtain ⟨a, x, rfl, hab, hcx, hB⟩ := H3.out k ls[k] (List.getElem?_eq_getElem hlt)
      obtain ⟨B, cx, rfl, g1, g2, g3⟩ := hB
      have e1 := flat_take hlt
      have e2 : tot ls (k + 1) ≤ ls.flatten.length := flat_le (ls := ls) (k + 1)
      have e3 := HL.out
      have HE : Hid ((tot ls (k + 1) : Int) = (tot ls k : Int) + (ls[k].length : Int)) := by
        show _ = _
        unfold tot
        rw [e1, List.length_append]; omega
      have q1 : (tot ls k : Int) + (ls[k].length : Int) ≤ 1073741824 := by have := HE.out; omega
      clear e1 e2 e3 g3
      go_wp2_with fail
      go_roundw
      case rel => exact ⟨k + 1, by omega, by go_num, by rw [HE.out], by first | rfl | trivial⟩
      case measure => simp [intOf]; omega
    · obtain rfl : k = ls.length := by omega
      have hT0 : tot ls ls.length = ls.flatten.length := by unfold tot; rw [List.take_length]
      rw [hT0]
      have HFF := Lib.hid (HF.out _ (Below.refl _ _))
      have hd30 : (ls.flatten.length : Int) ≤ 1073741824 := by have := HL.out; omega
      clear hT0
      generalize ls.flatten.length = d at *
      go_wp2_with fail
      refine (HFF.out).mono ?_
      rintro e w1 ⟨rfl, hb1⟩
      have HB1 := Lib.hid hb1
      have hc0 := HC0.out _ hb1
      have HM1 := Lib.hid (HMP.out _ hb1)
      clear hb1
      generalize T.room - used T.L = fr at *
      have q1 : ¬ (fr : Int) < (d : Int) := by omega
      have q2 : ¬ (64 : Int) ≤ (T.L.length : Int) := by omega
      go_wp2_with (first | (at_len; refine wpList_tape_len _ rfl _ rfl HM1.out rfl ?_))
      go_wp2
      go_ret
      exact ⟨_, rfl, (ErrP.none w).ahead HB1.out⟩
set_option maxRecDepth 100000 in
set_option maxHeartbeats 1000000 in
theorem fits_hit {w : World} {t : Nat} {T : Tp} {v : Value} {ls : List (List UInt8)} {seg : Int} (hT : TapeAt w t T) (h : PIs w v ls) (hl : ls.flatten.length ≤ 1073741824) (hd : ls.flatten.length ≤ T.room - used T.L) (hn : nameB seg = true) {j : Nat} {e : Ent} (hj : T.L[j]? = some e) (he : e.n = seg) :
    Calls Tryz.prog 58 #[.pointer (some ⟨t, 0, none⟩), .int .i64 seg, v] w fun e w' => ∃ v, e = .returned v ∧ ErrP 0 w v w' := by
  have HF := Lib.hid (fun W (hW : Below w.heap.size w W) => free_any (hT.below hW))
  have HMP := Lib.hid (fun W (hW : Below w.heap.size w W) => (hT.below hW).map)
  have HC0 := Lib.hid (fun W (hW : Below w.heap.size w W) => (cell_of (hT.below hW).head 0 : W.cell? ⟨t, 0, none⟩ = some (.map T.m)))
  obtain ⟨A, cap, rfl, h1, h2, h3⟩ := h
  unfold maxLen at h2
  have H3 := Lib.hid h3
  have h2' : ls.length ≤ 9223372036854775807 := by omega
  have HL := Lib.hid hl
  have HN0 := Lib.hid hn
  have HJ := Lib.hid hj
  have HEN := Lib.hid he
  have h64b := hT.few
  clear hn hj he
  clear h3 hl hT
  go_enter Tryz.func58, Tryz.ntmps58
  go_wp2_with fail
  go_loopw [7, 14] (fun s i wr => ∃ k : Nat, k ≤ ls.length ∧ i = .int .i64 k ∧ s = .int .i64 (tot ls k : Nat) ∧ w = wr) (fun _ i _ => ls.length - (intOf i).toNat)
  case atStart => exact ⟨0, by omega, rfl, rfl, rfl⟩
  case round =>
    obtain ⟨k, hk, rfl, rfl, rfl⟩ := hrel
    by_cases hlt : k < ls.length
    · obtain ⟨a, x, rfl, hab, hcx, hB⟩ := H3.out k ls[k] (List.getElem?_eq_getElem hlt)
      obtain ⟨B, cx, rfl, g1, g2, g3⟩ := hB
      have e1 := flat_take hlt
      have e2 : tot ls (k + 1) ≤ ls.flatten.length := flat_le (ls := ls) (k + 1)
      have e3 := HL.out
      have HE : Hid ((tot ls (k + 1) : Int) = (tot ls k : Int) + (ls[k].length : Int)) := by
        show _ = _
        unfold tot
        rw [e1, List.length_append]; omega
      have q1 : (tot ls k : Int) + (ls[k].length : Int) ≤ 1073741824 := by have := HE.out; omega
      clear e1 e2 e3 g3
      go_wp2_with fail
      go_roundw
      case rel => exact ⟨k + 1, by omega, by go_num, by rw [HE.out], by first | rfl | trivial⟩
      case measure => simp [intOf]; omega
    · obtain rfl : k = ls.length := by omega
      have hT0 : tot ls ls.length = ls.flatten.length := by unfold tot; rw [List.take_length]
      rw [hT0]
      have HFF := Lib.hid (HF.out _ (Below.refl _ _))
      have hd30 : (ls.flatten.length : Int) ≤ 1073741824 := by have := HL.out; omega
      clear hT0
      generalize ls.flatten.length = d at *
      go_wp2_with fail
      refine (HFF.out).mono ?_
      rintro e w1 ⟨rfl, hb1⟩
      have HB1 := Lib.hid hb1
      have hc0 := HC0.out _ hb1
      have HM1 := Lib.hid (HMP.out _ hb1)
      clear hb1
      generalize T.room - used T.L = fr at *
      have q1 : ¬ (fr : Int) < (d : Int) := by omega
      by_cases h64 : T.L.length < 64
      · have q2 : ¬ (64 : Int) ≤ (T.L.length : Int) := by omega
        go_wp2_with (first | (at_len; refine wpList_tape_len _ rfl _ rfl HM1.out rfl ?_))
        go_wp2
        go_ret
        exact ⟨_, rfl, (ErrP.none w).ahead HB1.out⟩
      · have q2 : (64 : Int) ≤ (T.L.length : Int) := by omega
        have hlk := run_tape_hit HM1.out HN0.out HJ.out HEN.out
        go_wp2_with (first | (at_len; refine wpList_tape_len _ rfl _ rfl HM1.out rfl ?_))
        go_wp2
        go_ret
        exact ⟨_, rfl, (ErrP.none w).ahead HB1.out⟩
end Go.Proofs.YtnegnokielmgkaaGreatDoor

namespace Go.Proofs.YtnegnokielmgkaaGreatDoor
open Go.RowKit
open Go.Maps (Keyed)

/-- A segment without bytes. -/
def freshE (seg : Int) (sb clock : Nat) : Ent := ⟨seg, sb, .slice none 0 0, [], 0, clock⟩
theorem set_heap {w : World} {r : Nat} {o : Obj} (h : r < w.heap.size) : ({ w with heap := w.heap.setIfInBounds r o } : World).heap[r]? = some o := by
  show (w.heap.setIfInBounds r o)[r]? = _
  rw [Array.getElem?_setIfInBounds_self, if_pos h]
theorem set_other {w : World} {r k : Nat} {o : Obj} (h : r ≠ k) : ({ w with heap := w.heap.setIfInBounds r o } : World).heap[k]? = w.heap[k]? := by
  show (w.heap.setIfInBounds r o)[k]? = _
  rw [Array.getElem?_setIfInBounds_ne h]
theorem set_size {w : World} {r : Nat} {o : Obj} : ({ w with heap := w.heap.setIfInBounds r o } : World).heap.size = w.heap.size := by simp
/-- A segment is put into the map. -/
theorem TapeAt.put {w w' : World} {t : Nat} {T : Tp} (h : TapeAt w t T) {m : Nat} {seg : Int} {sb : Nat} (hn : nameB seg = true) (hL : ∀ e ∈ T.L, e.n ≠ seg) (h64 : T.L.length < 64)
    (hs : w.heap.size ≤ w'.heap.size) (hk : ∀ k, k < w.heap.size → k ≠ t → k ≠ m → w'.heap[k]? = w.heap[k]?)
    (hh : w'.heap[t]? = some (.cells #[.map (some m), .int .i64 (T.room : Int), .bool T.fused, .int .i64 (T.left : Int), .bool T.down] 77 (0, 0)))
    (hm : T.m = some m ∨ (T.m = none ∧ w.heap.size ≤ m)) (hmt : m ≠ sb) (c : Nat) (hM : MapIs Tryz.prog 3 w' m ((T.L ++ [freshE seg sb c]).map Ent.me) (c + 1)) (hsb : w.heap.size ≤ sb)
    (hseg : w'.heap[sb]? = some (.cells #[.slice none 0 0, .int .i64 0] 89 (0, 0))) : TapeAt w' t { T with m := some m, L := T.L ++ [freshE seg sb c], clock := c + 1 } := by
  have hmE : ∀ x ∈ T.L, ∀ k ∈ x.blocks, k ≠ m := by
    intro x hx k hk e
    rcases hm with hm | ⟨hm, hm2⟩
    · exact (h.sep.te x hx k hk).2 (by rw [hm, e])
    · have := h.ltE x hx k hk; omega
  have hsep : Sep t (some m) T.L := by
    refine ⟨?_, fun x hx k hk => ⟨(h.sep.te x hx k hk).1, fun e => hmE x hx k hk (Option.some.inj e).symm⟩, h.sep.ee, h.sep.own⟩
    rcases hm with hm | ⟨hm, hm2⟩
    · rw [← hm]; exact h.sep.tm
    · intro e
      have := h.ltT
      have := Option.some.inj e
      omega
  obtain ⟨hn0, hn1⟩ := nameB_iff.1 hn
  refine ⟨hh, hM, fun x hx => ?_, ?_, by simp; omega, by rw [used_snoc]; exact h.used, h.room, h.left⟩
  · rcases List.mem_append.1 hx with hx | hx
    · exact (h.segs x hx).keep hs fun k hkx => hk k (h.ltE x hx k hkx) (h.sep.te x hx k hkx).1 (hmE x hx k hkx)
    · obtain rfl : x = freshE seg sb c := by simpa using hx
      exact ⟨hseg, .nil _ _, Nat.le_refl _, hn0, hn1⟩
  · have hfb : ∀ k ∈ (freshE seg sb c).blocks, k = sb := by
      intro k hk
      rcases List.mem_cons.1 hk with h1 | h1
      · exact h1
      · cases h1
    refine hsep.snoc w.heap.size h.ltE h.ltT ?_ ?_ (fun e => by cases e)
    · intro k hkx
      rw [hfb k hkx]
      exact fun e => hmt (Option.some.inj e)
    · intro k hkx
      rw [hfb k hkx]; exact hsb

theorem mapMade_at {W : World} {n : Nat} (h : W.heap.size = n) : MapIs Tryz.prog 3 (W.alloc (.map #[] 0)) n [] 0 := by subst h; exact MapIs.made _ _ W
/-- grown: the segment is there. -/
theorem grown_hit {w : World} {t : Nat} {T : Tp} (hT : TapeAt w t T) {seg : Int} (hn : nameB seg = true) {j : Nat} {e : Ent} (hj : T.L[j]? = some e) (he : e.n = seg) : Calls Tryz.prog 62 #[.pointer (some ⟨t, 0, none⟩), .int .i64 seg] w fun x w' => x = .returned (.pointer (some ⟨e.sb, 0, none⟩)) ∧ w = w' := by
  have hc : w.cell? ⟨t, 0, none⟩ = some (.map T.m) := cell_of hT.head 0
  have HM := Lib.hid hT.map
  have HNN := Lib.hid hn
  have HJ := Lib.hid hj
  have HE := Lib.hid he
  obtain ⟨m, hm⟩ : ∃ m, T.m = some m := by
    have := hT.map
    cases h : T.m with
    | none => rw [h] at this; rw [show T.L = [] from this] at hj; cases hj
    | some m => exact ⟨m, rfl⟩
  rw [hm] at hc HM
  have qT : ∀ (w : World), (binOp .eql 75 (.map (some m)) (.map none)).run Tryz.prog w = .ok (.bool false) w := fun w => run_eql_map_nil w _ _ _ (some m) Tryz.underlying75
  clear hn hj he hm
  go_enter Tryz.func62, Tryz.ntmps62
  go_wp2_with (at_lookup; refine wpList_tape_hit _ rfl _ _ rfl HM.out rfl seg rfl HNN.out HJ.out HE.out ?_)
  go_wp2
  go_ret
  exact ⟨rfl, rfl⟩
/-- What a growing leaves: the segment is there, without bytes. -/
def GrownP (w : World) (t : Nat) (T : Tp) (seg : Int) (x : Ending) (w' : World) : Prop := ∃ (T' : Tp) (sb c : Nat), x = .returned (.pointer (some ⟨sb, 0, none⟩)) ∧ T'.L = T.L ++ [freshE seg sb c] ∧ T'.room = T.room ∧ T'.fused = T.fused ∧ T'.left = T.left ∧ T'.down = T.down ∧ TapeAt w' t T' ∧ Touch (fun k => k = t ∨ T.m = some k) w w' ∧ (∀ k ∈ T'.blocks t, k ∈ T.blocks t ∨ w.heap.size ≤ k)
theorem grown_blocks {w : World} {t : Nat} {T T' : Tp} {m sb c : Nat} {seg : Int} (hL : T'.L = T.L ++ [freshE seg sb c]) (hm' : T'.m = some m) (hm : T.m = some m ∨ w.heap.size ≤ m) (hsb : w.heap.size ≤ sb) : ∀ k ∈ T'.blocks t, k ∈ T.blocks t ∨ w.heap.size ≤ k := by
  intro k hk
  rcases mem_blocks.1 hk with h | h | ⟨e, he, h⟩
  · exact .inl (mem_blocks.2 (.inl h))
  · rw [hm'] at h
    cases h
    rcases hm with hm | hm
    · exact .inl (mem_blocks.2 (.inr (.inl hm)))
    · exact .inr hm
  · rw [hL] at he
    rcases List.mem_append.1 he with he | he
    · exact .inl (mem_blocks.2 (.inr (.inr ⟨e, he, h⟩)))
    · obtain rfl : e = freshE seg sb c := by simpa using he
      rcases List.mem_cons.1 h with h1 | h1
      · exact .inr (by rw [h1]; exact hsb)
      · cases h1
set_option maxRecDepth 100000 in
theorem grown_miss {w : World} {t : Nat} {T : Tp} (hT : TapeAt w t T) {seg : Int} (hn : nameB seg = true) (hL : ∀ e ∈ T.L, e.n ≠ seg) (h64 : T.L.length < 64) : Calls Tryz.prog 62 #[.pointer (some ⟨t, 0, none⟩), .int .i64 seg] w (GrownP w t T seg) := by
  have hc : w.cell? ⟨t, 0, none⟩ = some (.map T.m) := cell_of hT.head 0
  have hf : w.frozen? ⟨t, 0, none⟩ = false := free0 hT.head 0
  have hlt := hT.ltT
  have HT := Lib.hid hT
  have HNN := Lib.hid hn
  have HL := Lib.hid hL
  have HKEY := Lib.hid (key_int hn)
  have HMISS := Lib.hid (me_miss hL)
  cases hTm : T.m with
  | some m =>
    have HM : Hid (MapIs Tryz.prog 3 w m (T.L.map Ent.me) T.clock) := by have := hT.map; rw [hTm] at this; exact this
    have hml := MapIs.lt HM.out
    have HTM := Lib.hid hTm
    rw [hTm] at hc
    have hmt : m ≠ t := fun e => hT.sep.tm (by rw [hTm, e])
    have qT : ∀ (w : World), (binOp .eql 75 (.map (some m)) (.map none)).run Tryz.prog w = .ok (.bool false) w := fun w => run_eql_map_nil w _ _ _ (some m) Tryz.underlying75
    clear hn hL hTm hT
    go_enter Tryz.func62, Tryz.ntmps62
    go_wp2_with (first | (at_lookup; refine wpList_look_miss _ rfl _ _ 75 false rfl keyed Tryz.underlying75 (zeroPtr _) HM.out rfl _ _ rfl HKEY.out HMISS.out ?_) | (at_mapUpdate; refine wpList_put_miss _ rfl _ _ _ 75 rfl keyed Tryz.underlying75 (HM.out.keep (Below.heap_alloc _ _ _ hml)) rfl _ _ rfl HKEY.out _ rfl HMISS.out ?_; intro w2 hw2 hM2))
    have HW2 := Lib.hid hw2
    have HM2 := Lib.hid hM2
    clear hw2 hM2
    go_wp2
    go_ret
    have e2 := HW2.out
    subst e2
    refine ⟨{ T with m := some m, L := T.L ++ [freshE seg w.heap.size T.clock], clock := T.clock + 1 }, w.heap.size, T.clock, rfl, rfl, rfl, rfl, rfl, rfl, ?_, ?_, grown_blocks rfl rfl (.inl HTM.out) (Nat.le_refl _)⟩
    · refine HT.out.put HNN.out HL.out h64 (by rw [set_size, asz]; omega) (fun k hk hkt hkm => ?_) ?_ (.inl HTM.out) (by omega) T.clock ?_ (Nat.le_refl _) ?_
      · rw [set_other (by omega)]; exact Below.heap_alloc _ _ _ hk
      · rw [set_other hmt, Below.heap_alloc _ _ _ hlt, HT.out.head, HTM.out]
      · rw [List.map_append]; exact HM2.out
      · rw [set_other (by omega)]; exact alloc_at _ _
    · exact ((Touch.refl _ _).alloc _).set m _ (fun _ => .inr HTM.out)
  | none =>
    have HTM := Lib.hid hTm
    have HLE : Hid (T.L = []) := by have := hT.map; rw [hTm] at this; exact this
    rw [hTm] at hc
    have hmm := @run_makeMap Tryz.prog
    have qT : ∀ (w : World), (binOp .eql 75 (.map none) (.map none)).run Tryz.prog w = .ok (.bool true) w := fun w => run_eql_map_nil w _ _ _ none Tryz.underlying75
    clear hn hL hTm hT
    go_enter Tryz.func62, Tryz.ntmps62
    have HM0 := Lib.hid (mapMade_at (setCell_size w ⟨t, 0, none⟩ (.map (some w.heap.size))))
    have HMP : Hid (∀ o, MapIs Tryz.prog 3 (((w.setCell ⟨t, 0, none⟩ (.map (some w.heap.size))).alloc (.map #[] 0)).alloc o) w.heap.size [] 0) := fun o => HM0.out.keep (Below.heap_alloc _ _ _ (by rw [asz, setCell_size]; omega))
    go_wp2_with (first | (at_lookup; refine wpList_look_miss _ rfl _ _ 75 false rfl keyed Tryz.underlying75 (zeroPtr _) HM0.out rfl _ _ rfl HKEY.out (by simp) ?_) | (at_mapUpdate; refine wpList_put_miss _ rfl _ _ _ 75 rfl keyed Tryz.underlying75 (HMP.out _) rfl _ _ rfl HKEY.out _ rfl (by simp) ?_; intro w2 hw2 hM2))
    have HW2 := Lib.hid hw2
    have HM2 := Lib.hid hM2
    clear hw2 hM2
    go_wp2
    go_ret
    have e2 := HW2.out
    subst e2
    have hsz := setCell_size w ⟨t, 0, none⟩ (.map (some w.heap.size))
    refine ⟨{ T with m := some w.heap.size, L := T.L ++ [freshE seg (w.heap.size + 1) 0], clock := 0 + 1 }, w.heap.size + 1, 0, rfl, rfl, rfl, rfl, rfl, rfl, ?_, ?_, grown_blocks rfl rfl (.inr (Nat.le_refl _)) (Nat.le_succ _)⟩
    · refine HT.out.put HNN.out HL.out h64 (by rw [set_size, asz, asz, hsz]; omega) (fun k hk hkt hkm => ?_) ?_ (.inr ⟨HTM.out, Nat.le_refl _⟩) (by omega) 0 ?_ (Nat.le_succ _) ?_
      · rw [set_other (by omega), Below.heap_alloc _ _ _ (by rw [asz, hsz]; omega), Below.heap_alloc _ _ _ (by rw [hsz]; exact hk)]
        exact Below.heap_setCell _ _ _ _ hkt
      · rw [set_other (by omega), Below.heap_alloc _ _ _ (by rw [asz, hsz]; omega), Below.heap_alloc _ _ _ (by rw [hsz]; exact hlt), set_at HT.out.head 0]
        rfl
      · rw [HLE.out]; exact HM2.out
      · have h1 := alloc_at ((w.setCell ⟨t, 0, none⟩ (.map (some w.heap.size))).alloc (.map #[] 0)) (.cells #[.slice none 0 0, .int .i64 0] 89)
        rw [asz, hsz] at h1
        rw [set_other (by omega)]
        exact h1
    · exact ((((Touch.refl _ _).setCell ⟨t, 0, none⟩ (fun _ => .inl rfl) _).alloc _).alloc _).set w.heap.size _ (fun h => absurd h (Nat.lt_irrefl _))
end Go.Proofs.YtnegnokielmgkaaGreatDoor

namespace Go.Proofs.YtnegnokielmgkaaGreatDoor
open Go.RowKit
open Go.Maps (Keyed)

/-- What stands in the segments. -/
def abs (L : List Ent) : List (Int × List UInt8 × Nat) := L.map fun e => (e.n, e.b, e.s)
def appA (A : List (Int × List UInt8 × Nat)) (n : Int) (d : List UInt8) : List (Int × List UInt8 × Nat) :=
  if A.any (fun x => x.1 == n) then A.map (fun x => if x.1 = n then (x.1, x.2.1 ++ d, x.2.2) else x) else A ++ [(n, d, 0)]
structure Alike (T T' : Tp) : Prop where
  room : T'.room = T.room
  fused : T'.fused = T.fused
  left : T'.left = T.left
  down : T'.down = T.down
theorem any_abs {L : List Ent} {n : Int} {j : Nat} {e : Ent} (hj : L[j]? = some e) (he : e.n = n) : (abs L).any (fun x => x.1 == n) = true := by
  rw [List.any_eq_true]
  exact ⟨_, List.mem_map.2 ⟨e, List.mem_of_getElem? hj, rfl⟩, by simpa using he⟩
theorem any_abs_no {L : List Ent} {n : Int} (hL : ∀ e ∈ L, e.n ≠ n) : (abs L).any (fun x => x.1 == n) = false := by
  rw [List.any_eq_false]
  intro x hx
  obtain ⟨e, he, rfl⟩ := List.mem_map.1 hx
  simpa using hL e he
/-- One entry of a list whose numbers differ. -/
theorem abs_set {L : List Ent} {n : Int} {j : Nat} {e e' : Ent} (hj : L[j]? = some e) (he : e.n = n) (hone : ∀ (i : Nat) (a : Ent), L[i]? = some a → a.n = n → i = j) (f : Int × List UInt8 × Nat → Int × List UInt8 × Nat) (hf : f (e.n, e.b, e.s) = (e'.n, e'.b, e'.s)) :
    abs (L.set j e') = (abs L).map (fun x => if x.1 = n then f x else x) := by
  unfold abs
  refine List.ext_getElem? fun i => ?_
  simp only [List.getElem?_map, List.getElem?_set]
  by_cases hij : j = i
  · subst hij
    rw [if_pos rfl, if_pos (List.getElem?_eq_some_iff.1 hj).1, hj]
    simp [he, ← hf]
  · rw [if_neg hij]
    cases hi : L[i]? with
    | none => rfl
    | some a =>
      have : a.n ≠ n := fun h => hij (hone i a hi h).symm
      simp [this]

/-- Behind grown: the segment is there. -/
def Grew (w : World) (t : Nat) (T : Tp) (seg : Int) (x : Ending) (w' : World) : Prop := ∃ (T1 : Tp) (j : Nat) (e1 : Ent), x = .returned (.pointer (some ⟨e1.sb, 0, none⟩)) ∧ TapeAt w' t T1 ∧ T1.L[j]? = some e1 ∧ e1.n = seg ∧ Alike T T1 ∧ used T1.L = used T.L ∧
  Touch (fun k => k ∈ T.blocks t) w w' ∧ (∀ k ∈ T1.blocks t, k ∈ T.blocks t ∨ w.heap.size ≤ k) ∧ ∀ d, appA (abs T.L) seg d = (abs T1.L).map (fun x => if x.1 = seg then (x.1, x.2.1 ++ d, x.2.2) else x)
theorem grown_any {w : World} {t : Nat} {T : Tp} (hT : TapeAt w t T) {seg : Int} (hn : nameB seg = true) (hf : T.L.length < 64 ∨ ∃ e ∈ T.L, e.n = seg) : Calls Tryz.prog 62 #[.pointer (some ⟨t, 0, none⟩), .int .i64 seg] w (Grew w t T seg) := by
  rcases seg_cases T.L seg with ⟨j, e, hj, he⟩ | hL
  · refine (grown_hit hT hn hj he).mono ?_
    rintro x w' ⟨rfl, rfl⟩
    refine ⟨T, j, e, rfl, hT, hj, he, ⟨rfl, rfl, rfl, rfl⟩, rfl, .refl _ _, fun k hk => .inl hk, fun d => ?_⟩
    unfold appA
    rw [if_pos (any_abs hj he)]
  · have h64 : T.L.length < 64 := by
      rcases hf with h | ⟨e, he, hn⟩
      · exact h
      · exact absurd hn (hL e he)
    refine (grown_miss hT hn hL h64).mono ?_
    rintro x w' ⟨T', sb, c, rfl, hL', h1, h2, h3, h4, hT', ht, hb⟩
    have hj : T'.L[T.L.length]? = some (freshE seg sb c) := by rw [hL', List.getElem?_append_right (Nat.le_refl _)]; simp
    refine ⟨T', T.L.length, freshE seg sb c, rfl, hT', hj, rfl, ⟨h1, h2, h3, h4⟩, by rw [hL', used_snoc]; rfl, ht.mono fun k _ hk => ?_, hb, fun d => ?_⟩
    · rcases hk with rfl | hk
      · exact mem_blocks.2 (.inl rfl)
      · exact mem_blocks.2 (.inr (.inl hk))
    · unfold appA
      rw [if_neg (by rw [any_abs_no hL]; decide), hL']
      unfold abs
      rw [List.map_append, List.map_append]
      congr 1
      · rw [List.map_map]
        refine (List.map_congr_left fun e he => ?_).symm
        simp [hL e he]
      · simp [freshE]

/-- What an append leaves. -/
def Apped (w : World) (t : Nat) (T : Tp) (seg : Int) (d : List UInt8) (w' : World) : Prop := ∃ T', TapeAt w' t T' ∧ Alike T T' ∧ abs T'.L = appA (abs T.L) seg d ∧ Touch (fun k => k ∈ T.blocks t) w w' ∧ ∀ k ∈ T'.blocks t, k ∈ T.blocks t ∨ w.heap.size ≤ k

set_option maxRecDepth 100000 in
set_option maxHeartbeats 2000000 in
theorem app_do {w : World} {t : Nat} {T : Tp} {seg : Int} {v : Value} {ls : List (List UInt8)} {ba bs bp : Nat} (hT : TapeAt w t T) (hn : nameB seg = true) (hf : T.L.length < 64 ∨ ∃ e ∈ T.L, e.n = seg) (hu : used T.L + ls.flatten.length ≤ 1048576)
    (h0 : ∀ w', Touch (fun k => k ∈ T.blocks t) w w' → w'.cell? ⟨ba, 0, none⟩ = some (.pointer (some ⟨t, 0, none⟩))) (h1 : ∀ w', Touch (fun k => k ∈ T.blocks t) w w' → w'.cell? ⟨bs, 0, none⟩ = some (.int .i64 seg))
    (h2 : ∀ w', Touch (fun k => k ∈ T.blocks t) w w' → w'.cell? ⟨bp, 0, none⟩ = some v) (hP : ∀ w', Touch (fun k => k ∈ T.blocks t) w w' → PIs w' v ls) :
    Calls Tryz.prog 61 #[.pointer (some ⟨ba, 0, none⟩), .pointer (some ⟨bs, 0, none⟩), .pointer (some ⟨bp, 0, none⟩)] w fun e w' => e = .returned (.tuple #[]) ∧ Apped w t T seg ls.flatten w' := by
  have HG := Lib.hid (grown_any hT hn hf)
  have c0 := h0 w (.refl _ _)
  have c1 := h1 w (.refl _ _)
  have H2 := Lib.hid h2
  have HP := Lib.hid hP
  have HU := Lib.hid hu
  obtain ⟨A, cap, rfl, g1, g2, g3⟩ := hP w (.refl _ _)
  unfold maxLen at g2
  have hl0 : ls.length ≤ 9223372036854775807 := by omega
  clear g3 hT hn hf h0 h1 h2 hP hu
  go_enter Tryz.func61, Tryz.ntmps61
  go_wp2_with fail
  refine (HG.out).mono ?_
  rintro e w1 ⟨T1, j, e1, rfl, hT1, hj, he1, hal, hus, ht1, hb1, habs⟩
  have hc2 := H2.out w1 ht1
  have HT1 := Lib.hid hT1
  have HJ := Lib.hid hj
  have HE1 := Lib.hid he1
  have HAL := Lib.hid hal
  have HUS := Lib.hid hus
  have HTO := Lib.hid ht1
  have HB1 := Lib.hid hb1
  have HABS := Lib.hid habs
  clear hT1 hj he1 hal hus ht1 hb1 habs
  go_wp2_with fail
  go_loopw [11] (fun i wr => ∃ (k : Nat) (vk : Value), k ≤ ls.length ∧ i = .int .i64 k ∧ TapeAt wr t { T1 with L := T1.L.set j { e1 with v := vk, b := e1.b ++ (ls.take k).flatten } } ∧ Touch (fun k => k ∈ T.blocks t) w wr ∧ w1.heap.size ≤ wr.heap.size ∧ (∀ g, vk.ownBlock = some g → g ∈ T.blocks t ∨ w.heap.size ≤ g)) (fun i _ => ls.length - (intOf i).toNat)
  case atStart =>
    refine ⟨0, e1.v, by omega, rfl, ?_, HTO.out, Nat.le_refl _, fun g hg => ?_⟩
    · have : ({ e1 with v := e1.v, b := e1.b ++ (ls.take 0).flatten } : Ent) = e1 := by simp
      rw [this, set_same HJ.out]
      exact HT1.out
    · exact HB1.out g (mem_blocks.2 (.inr (.inr ⟨e1, List.mem_of_getElem? HJ.out, List.mem_cons_of_mem _ (by rw [hg]; exact List.mem_singleton.2 rfl)⟩)))
  case round =>
    obtain ⟨k, vk, hk, rfl, hTk, htk, hsz, hvk⟩ := hrel
    have hjl := (List.getElem?_eq_some_iff.1 HJ.out).1
    have hjk : (T1.L.set j { e1 with v := vk, b := e1.b ++ (ls.take k).flatten })[j]? = some { e1 with v := vk, b := e1.b ++ (ls.take k).flatten } := by rw [List.getElem?_set, if_pos rfl, if_pos hjl]
    by_cases hlt : k < ls.length
    · obtain ⟨A', cap', eA, p1, p2, p3⟩ := HP.out wr htk
      cases eA
      obtain ⟨a, x, rfl, hab, hcx, hB⟩ := p3 k ls[k] (List.getElem?_eq_getElem hlt)
      have hseg := hTk.segs _ (List.mem_of_getElem? hjk)
      have hrow : RowIs wr 1 vk (e1.b ++ (ls.take k).flatten).length (bc (e1.b ++ (ls.take k).flatten)) := hseg.row
      have hcs := cell_of hseg.head 0
      have hown : vk.ownBlock ≠ some e1.sb := hTk.sep.own _ (List.mem_of_getElem? hjk)
      have e2 := flat_take hlt
      have e3 : (ls.take (k + 1)).flatten.length ≤ ls.flatten.length := flat_le (ls := ls) (k + 1)
      rw [e2, List.length_append] at e3
      have huk := used_set (e' := { e1 with v := vk, b := e1.b ++ (ls.take k).flatten }) HJ.out
      simp only [List.length_append] at huk
      have hlen : (e1.b ++ (ls.take k).flatten).length + ls[k].length ≤ 16777216 := by
        have := hTk.used
        simp only at this
        have h9 := used_mem (List.mem_of_getElem? hjk)
        simp only at h9
        have := HU.out
        have := HUS.out
        omega
      have HLEN := Lib.hid hlen
      have HE2 := Lib.hid e2
      have HTK := Lib.hid hTk
      have HTOK := Lib.hid htk
      have HROW := Lib.hid hrow
      have HHEAD := Lib.hid hseg.head
      have HOWN := Lib.hid hown
      have HVK := Lib.hid hvk
      have HJK := Lib.hid hjk
      have HLE := Lib.hid hseg.le
      have HUK : Hid (used (T1.L.set j { e1 with v := vk, b := e1.b ++ (ls.take k).flatten }) + ls[k].length ≤ 1048576) := by
        show _ ≤ _
        have := HU.out
        have := HUS.out
        omega
      have src := Lib.hid hB.src
      obtain ⟨Ax, cx, rfl, _, _, hx3⟩ := hB
      obtain ⟨Av, cv, ev, _, _, _, _, hv3⟩ := hrow.form
      subst ev
      replace hcs : wr.cell? ⟨e1.sb, 0, none⟩ = some (.slice Av (e1.b ++ (ls.take k).flatten).length cv) := hcs
      have hsl := heap_lt HHEAD.out
      have HBE : Hid (e1.b ++ (ls.take (k + 1)).flatten = (e1.b ++ (ls.take k).flatten) ++ ls[k]) := by show _ = _; rw [HE2.out, List.append_assoc]
      clear p3 hx3 hv3 hTk htk hrow hseg hown hvk hjk e2 e3 huk hlen HE2
      generalize ls[k] = l at *
      generalize e1.b ++ (ls.take k).flatten = bk at *
      go_wp2_with (at_builtin; refine wpList_append_row _ _ Tryz.underlying32 info5 rfl (by decide) (by decide) _ rfl _ _ 32 rfl bk.length l.length (bc bk) (bc l) _ _ rfl rfl HROW.out src.out HLEN.out ?_)
      intro v' wa hra hga hva
      have HRA := Lib.hid hra
      have HGA := Lib.hid hga
      have HVA := Lib.hid hva
      have hH2 : wa.heap[e1.sb]? = some (.cells #[.slice Av bk.length cv, .int .i64 (e1.s : Int)] 89 (0, 0)) := (hga.block e1.sb hsl (fun e => HOWN.out e.symm)).trans HHEAD.out
      have hs0 := cell_of hH2 0
      have hfz := free0 hH2 0
      have HH2 := Lib.hid hH2
      obtain ⟨A', c', ev', _, _, _, _, hv3'⟩ := hra.form
      subst ev'
      replace hs0 : wa.cell? ⟨e1.sb, 0, none⟩ = some (.slice Av bk.length cv) := hs0
      clear hra hga hva hH2 hv3'
      go_wp2
      go_roundw
      case measure => simp [intOf]; omega
      case rel =>
        have hne : ∀ g, (Value.slice A' (bk.length + l.length) c').ownBlock = some g → g ≠ e1.sb := by
          intro g hg e
          rcases HVA.out with h | h
          · rw [h, e] at hg; exact HOWN.out hg
          · rw [h] at hg
            have := Option.some.inj hg
            omega
        refine ⟨k + 1, .slice A' (bk.length + l.length) c', by omega, by go_num, ?_, ?_, ?_, ?_⟩
        · have HU2 : used (T1.L.set j { e1 with v := .slice Av bk.length cv, b := bk }) + (bk ++ l).length ≤ 1048576 + bk.length := by rw [List.length_append]; have := HUK.out; omega
          have hsg := HTK.out.seg (w' := wa.setCell ⟨e1.sb, 0, none⟩ (.slice A' (bk.length + l.length) c')) HJK.out (v := .slice A' (bk.length + l.length) c') (b := bk ++ l) (s := e1.s) (by rw [setCell_size]; exact HGA.out.size)
            (fun k' hk' h1 h2 => (Below.heap_setCell _ _ _ _ h1).trans (HGA.out.block k' hk' (fun e => h2 e.symm)))
            (by rw [set_at HH2.out 0]; rfl)
            (by rw [List.length_append, bc_append]; exact HRA.out.keep (Nat.le_of_eq (setCell_size _ _ _).symm) (fun g hg => Below.heap_setCell _ _ _ _ (hne g hg)))
            (by rcases HVA.out with h | h
                · exact .inl h
                · exact .inr (fun g hg => by rw [h] at hg; exact Nat.le_of_eq (Option.some.inj hg)))
            (by have : e1.s ≤ bk.length := HLE.out; rw [List.length_append]; omega)
            HU2
          simp only [List.set_set] at hsg
          rw [HBE.out]
          exact hsg
        · refine (HTOK.out.grown HGA.out (fun g hg hlt => ?_)).setCell ⟨e1.sb, 0, none⟩ (fun hlt => ?_) _
          · rcases HVK.out g hg with h | h
            · exact h
            · omega
          · rcases HB1.out e1.sb (mem_blocks.2 (.inr (.inr ⟨e1, List.mem_of_getElem? HJ.out, List.mem_cons_self ..⟩))) with h | h
            · exact h
            · simp only at hlt; omega
        · rw [setCell_size]; exact Nat.le_trans hsz HGA.out.size
        · intro g hg
          rcases HVA.out with h | h
          · rw [h] at hg; exact HVK.out g hg
          · rw [h] at hg
            have h1 := Option.some.inj hg
            have h2 := HTOK.out.size
            exact .inr (by omega)
    · obtain rfl : k = ls.length := by omega
      rw [List.take_length] at hTk hjk
      have HTK := Lib.hid hTk
      have HTOK := Lib.hid htk
      have HVK := Lib.hid hvk
      obtain ⟨A', cap', eA, p1, p2, p3⟩ := HP.out wr htk
      clear hTk htk hvk hjk p3
      go_wp2
      go_end0
      refine ⟨rfl, _, HTK.out, ⟨HAL.out.room, HAL.out.fused, HAL.out.left, HAL.out.down⟩, ?_, HTOK.out, fun k hk => ?_⟩
      · rw [HABS.out]
        exact abs_set HJ.out HE1.out (fun i a ha hn => HT1.out.one ha HJ.out (hn.trans HE1.out.symm)) (fun x => (x.1, x.2.1 ++ ls.flatten, x.2.2)) rfl
      · rcases mem_blocks.1 hk with h | h | ⟨x, hx, h⟩
        · exact HB1.out k (mem_blocks.2 (.inl h))
        · exact HB1.out k (mem_blocks.2 (.inr (.inl h)))
        · rcases List.mem_or_eq_of_mem_set hx with hx | rfl
          · exact HB1.out k (mem_blocks.2 (.inr (.inr ⟨x, hx, h⟩)))
          · rcases List.mem_cons.1 h with h | h
            · exact HB1.out k (mem_blocks.2 (.inr (.inr ⟨e1, List.mem_of_getElem? HJ.out, by rw [h]; exact List.mem_cons_self ..⟩)))
            · exact HVK.out k (by simpa using h)
end Go.Proofs.YtnegnokielmgkaaGreatDoor
