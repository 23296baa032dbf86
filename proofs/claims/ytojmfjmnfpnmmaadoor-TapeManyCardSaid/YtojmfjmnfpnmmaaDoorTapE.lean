/- The tape: burn, change, fits, grown. -/
import Derived.Test.YtojmfjmnfpnmmaaDoorTapD
set_option linter.unusedSimpArgs false
set_option linter.unusedVariables false
set_option linter.unnecessarySimpa false
namespace Go.Proofs.YtojmfjmnfpnmmaaDoor
open Go.RowKit
open Go.Maps (Keyed)

theorem setCell_size (w : World) (a : Addr) (v : Value) : (w.setCell a v).heap.size = w.heap.size := by simp [World.setCell]
theorem touch_set (w : World) (t i : Nat) (v : Value) : Touch (· = t) w (w.setCell ⟨t, i, none⟩ v) := (Touch.refl (· = t) w).setCell ⟨t, i, none⟩ (fun _ => rfl) v
section
variable {w : World} {t : Nat} {T : Tp}
theorem TapeAt.setDown (h : TapeAt w t T) : TapeAt (w.setCell ⟨t, 4, none⟩ (.bool true)) t { T with down := true } :=
  h.turn (room := T.room) (left := T.left) (fused := T.fused) (down := true) (Nat.le_of_eq (setCell_size _ _ _).symm) (fun k _ hk => Below.heap_setCell _ _ _ _ hk) (set_at h.head 4 _) h.room h.left
theorem TapeAt.setLeft (h : TapeAt w t T) (n : Nat) (hn : n ≤ 9223372036854775807) : TapeAt (w.setCell ⟨t, 3, none⟩ (.int .i64 (n : Int))) t { T with left := n } :=
  h.turn (room := T.room) (left := n) (fused := T.fused) (down := T.down) (Nat.le_of_eq (setCell_size _ _ _).symm) (fun k _ hk => Below.heap_setCell _ _ _ _ hk) (set_at h.head 3 _) h.room hn
theorem TapeAt.setRoom (h : TapeAt w t T) (n : Nat) (hn : n ≤ 1048576) : TapeAt (w.setCell ⟨t, 1, none⟩ (.int .i64 (n : Int))) t { T with room := n } :=
  h.turn (room := n) (left := T.left) (fused := T.fused) (down := T.down) (Nat.le_of_eq (setCell_size _ _ _).symm) (fun k _ hk => Below.heap_setCell _ _ _ _ hk) (set_at h.head 1 _) hn h.left
end
/-- Has the fuse no change left? -/
def spent (T : Tp) : Bool := T.fused && T.left == 0
def burnt (T : Tp) : Tp := if T.fused then { T with left := T.left - 1 } else T
def burntW (w : World) (t : Nat) (T : Tp) : World := if T.fused then w.setCell ⟨t, 3, none⟩ (.int .i64 ((T.left - 1 : Nat) : Int)) else w
theorem burntW_at {w : World} {t : Nat} {T : Tp} (h : TapeAt w t T) : TapeAt (burntW w t T) t (burnt T) ∧ Touch (· = t) w (burntW w t T) ∧ (burntW w t T).heap.size = w.heap.size := by
  unfold burntW burnt
  have := h.left
  split
  · exact ⟨h.setLeft _ (by omega), touch_set _ _ _ _, setCell_size _ _ _⟩
  · exact ⟨h, .refl _ _, rfl⟩

set_option maxRecDepth 100000 in
theorem burn_ok {w : World} {t : Nat} {T : Tp} (hT : TapeAt w t T) (hs : spent T = false) : Calls Tryd.prog 52 #[.pointer (some ⟨t, 0, none⟩)] w fun e w' => e = .returned .nilIface ∧ burntW w t T = w' := by
  have hc2 : w.cell? ⟨t, 2, none⟩ = some (.bool T.fused) := cell_of hT.head 2
  have hc3 : w.cell? ⟨t, 3, none⟩ = some (.int .i64 (T.left : Int)) := cell_of hT.head 3
  have hf3 : w.frozen? ⟨t, 3, none⟩ = false := free0 hT.head 3
  have hlt := heap_lt hT.head
  have hl := hT.left
  unfold burntW
  clear hT
  cases hf : T.fused with
  | false =>
    rw [hf] at hc2
    clear hs hf
    go_enter Tryd.func52, Tryd.ntmps52
    go_wp2_with fail
    go_ret
    exact ⟨rfl, rfl⟩
  | true =>
    rw [hf] at hc2
    have h0 : 1 ≤ T.left := by
      unfold spent at hs
      rw [hf] at hs
      simp at hs
      omega
    have q1 : ((T.left : Int) == 0) = false := by rw [beq_eq_false_iff_ne]; omega
    have q2 : ((T.left - 1 : Nat) : Int) = (T.left : Int) - 1 := by omega
    rw [q2]
    clear hs hf q2
    go_enter Tryd.func52, Tryd.ntmps52
    go_wp2_with fail
    go_ret
    exact ⟨rfl, rfl⟩
set_option maxRecDepth 100000 in
theorem burn_no {w : World} {t : Nat} {T : Tp} (hT : TapeAt w t T) (hs : spent T = true) : Calls Tryd.prog 52 #[.pointer (some ⟨t, 0, none⟩)] w fun e w' => ∃ v, e = .returned v ∧ ErrP 8 (w.setCell ⟨t, 4, none⟩ (.bool true)) v w' := by
  have hc2 : w.cell? ⟨t, 2, none⟩ = some (.bool T.fused) := cell_of hT.head 2
  have hc3 : w.cell? ⟨t, 3, none⟩ = some (.int .i64 (T.left : Int)) := cell_of hT.head 3
  have hf4 : w.frozen? ⟨t, 4, none⟩ = false := free0 hT.head 4
  have hc4 : w.cell? ⟨t, 4, none⟩ = some (.bool T.down) := cell_of hT.head 4
  have hlt := heap_lt hT.head
  obtain ⟨hf, h0⟩ : T.fused = true ∧ T.left = 0 := by
    unfold spent at hs
    simpa using hs
  rw [hf] at hc2
  rw [h0] at hc3
  have HN := Lib.hid (new_any 8 (w.setCell ⟨t, 4, none⟩ (.bool true)))
  clear hT hs hf h0
  go_enter Tryd.func52, Tryd.ntmps52
  go_wp2_with fail
  refine (HN.out).mono ?_
  rintro e w1 ⟨v1, rfl, he1, hb1⟩
  have HA := Lib.hid (in_any ⟨#[102, 117, 115, 101]⟩ he1)
  have HB1 := Lib.hid hb1
  clear he1 hb1
  go_wp2_with fail
  refine (HA.out).mono ?_
  rintro e w2 ⟨v2, rfl, he2, hb2⟩
  have H2 : Hid (ErrP 8 (w.setCell ⟨t, 4, none⟩ (.bool true)) v2 w2) := .of _ he2 (HB1.out.trans (hb2.mono HB1.out.size)) rfl (by simp [newL, onto_cons]) (by decide) (.cons rfl (numOk_one (by decide))) (by simp [newL, onto_cons])
  clear he2 hb2
  go_wp2
  go_ret
  exact ⟨_, rfl, H2.out⟩

/-- An error of that number, behind In. -/
def ErrQ (E : Int) (w : World) (v : Value) (w' : World) : Prop := ∃ c, ErrIs w' c v ∧ codeOf c = E ∧ (E = 0 → c = []) ∧ NumOk c ∧ c.length < 200 ∧ Below w.heap.size w w'
theorem ErrQ.form {E : Int} {w w' : World} {v : Value} (h : ErrQ E w v w') (hE : E ≠ 0) : ∃ t u, v = .iface t u := by
  obtain ⟨c, h1, h2, _⟩ := h
  cases c with
  | nil => exact absurd h2.symm hE
  | cons k r => exact h1.form1
theorem ErrQ.below {E : Int} {w w' : World} {v : Value} (h : ErrQ E w v w') : Below w.heap.size w w' := by
  obtain ⟨_, _, _, _, _, _, h⟩ := h
  exact h
theorem ErrQ.nil {w w' : World} {v : Value} (h : ErrQ 0 w v w') : v = .nilIface := by
  obtain ⟨c, h1, _, h3, _, _, h6⟩ := h
  rw [h3 rfl] at h1
  exact h1
theorem code_ofQ {E : Int} {w w1 W : World} {v : Value} (hG : Glob w) (h : ErrQ E w v w1) (hW : Below w1.heap.size w1 W) : Calls Tryd.prog 41 #[v] W fun e w' => e = .returned (.int .i64 E) ∧ Below W.heap.size W w' := by
  obtain ⟨c, h1, rfl, _, h4, h5, h6⟩ := h
  exact code_any (hG.below h6) h1 h4 (by omega) hW
theorem code_nil {W : World} (hG : Glob W) : Calls Tryd.prog 41 #[.nilIface] W fun e w' => e = .returned (.int .i64 0) ∧ Below W.heap.size W w' :=
  code_of hG (.none W) (Below.refl _ _)
/-- In of an error, or of none. -/
theorem in_err {E : Int} {w0 w W : World} {v : Value} (s : ByteArray) (h : ErrP E w0 v w) (hW : Below w.heap.size w W) : Calls Tryd.prog 33 #[.string s, v] W fun e w' => ∃ v', e = .returned v' ∧ ErrQ E w0 v' w' ∧ Below W.heap.size W w' := by
  obtain ⟨c, h1, h2, h3, h4, h5, h6⟩ := h.ahead hW
  refine (in_any s h1).mono ?_
  rintro e w' ⟨v', rfl, he, hb⟩
  cases c with
  | nil => exact ⟨v', rfl, ⟨[], he, h2, fun _ => rfl, h4, by decide, h6.trans (hb.mono h6.size)⟩, hb⟩
  | cons k r =>
    have hE : E ≠ 0 := fun h => by cases h3 h
    refine ⟨v', rfl, ⟨.nam s :: k :: r, he, ?_, fun h => absurd h hE, .cons rfl h4, ?_, h6.trans (hb.mono h6.size)⟩, hb⟩
    · rw [← h2]; rfl
    · simp only [List.length_cons] at h5 ⊢
      omega

set_option maxRecDepth 100000 in
theorem change_err {E : Int} {w0 w W : World} {v f : Value} {p : Value} (hG : Glob w0) (h : ErrQ E w0 v w) (hE : E ≠ 0) (hW : Below w.heap.size w W) : Calls Tryd.prog 32 #[p, v, f] W fun e w' => e = .returned (.int .i64 E) ∧ Below W.heap.size W w' := by
  have HC := Lib.hid (code_ofQ hG h hW)
  obtain ⟨t, u, rfl⟩ := h.form hE
  clear h hE hG hW
  go_enter Tryd.func32, Tryd.ntmps32
  go_wp2_with fail
  refine (HC.out).mono ?_
  rintro e w2 ⟨rfl, hb⟩
  have HB := Lib.hid hb
  clear hb
  go_wp2
  go_ret
  exact ⟨rfl, HB.out⟩
set_option maxRecDepth 100000 in
theorem change_dead {w : World} {t : Nat} {T : Tp} {f : Value} (hG : Glob w) (hT : TapeAt w t T) (hs : spent T = true) (hg : 1 ≠ t) : Calls Tryd.prog 32 #[.pointer (some ⟨t, 0, none⟩), .nilIface, f] w fun e w' => e = .returned (.int .i64 8) ∧ TapeAt w' t { T with down := true } ∧ Touch (· = t) w w' := by
  have HB := Lib.hid (burn_no hT hs)
  have HT := Lib.hid hT.setDown
  have HG : Hid (Glob (w.setCell ⟨t, 4, none⟩ (.bool true))) := (World.cell?_of_block (a := ⟨1, 0, none⟩) (Below.heap_setCell _ _ _ _ hg)).trans hG
  clear hT hs hG
  go_enter Tryd.func32, Tryd.ntmps32
  go_wp2_with fail
  refine (HB.out).mono ?_
  rintro e w1 ⟨v1, rfl, h1⟩
  have HC := Lib.hid (code_of HG.out h1 (Below.refl _ _))
  have HB1 := Lib.hid h1.below
  obtain ⟨t', u, rfl⟩ := h1.form (by decide)
  clear h1
  go_wp2_with fail
  refine (HC.out).mono ?_
  rintro e w2 ⟨rfl, hb2⟩
  have HB2 := Lib.hid (HB1.out.trans (hb2.mono HB1.out.size))
  clear hb2
  go_wp2
  go_ret
  exact ⟨rfl, HT.out.below HB2.out, (touch_set w t 4 _).after HB2.out⟩
set_option maxRecDepth 100000 in
theorem change_app {w : World} {t : Nat} {T : Tp} {a0 a1 a2 : Nat} (hG : Glob w) (hT : TapeAt w t T) (hs : spent T = false) (hg : 1 ≠ t) (D : World → Prop) (hD : ∀ W W', D W → Below W.heap.size W W' → D W') (hDG : ∀ W, D W → Glob W)
    (hdo : Calls Tryd.prog 34 #[.pointer (some ⟨a0, 0, none⟩), .pointer (some ⟨a1, 0, none⟩), .pointer (some ⟨a2, 0, none⟩)] (burntW w t T) fun e w' => e = .returned (.tuple #[]) ∧ D w') :
    Calls Tryd.prog 32 #[.pointer (some ⟨t, 0, none⟩), .nilIface, .func (.func 34) #[] #[.pointer (some ⟨a0, 0, none⟩), .pointer (some ⟨a1, 0, none⟩), .pointer (some ⟨a2, 0, none⟩)]] w fun e w' => e = .returned (.int .i64 0) ∧ D w' := by
  have HB := Lib.hid (burn_ok hT hs)
  have HDO := Lib.hid hdo
  have HD := Lib.hid hD
  have HDG := Lib.hid hDG
  clear hT hs hG hdo hD hDG
  go_enter Tryd.func32, Tryd.ntmps32
  go_wp2_with fail
  refine (HB.out).mono ?_
  rintro e w1 ⟨rfl, rfl⟩
  go_wp2_with fail
  refine (HDO.out).mono ?_
  rintro e w2 ⟨rfl, hd⟩
  have HC := Lib.hid (code_nil (HDG.out _ hd))
  have HD2 := Lib.hid hd
  clear hd
  go_wp2_with fail
  refine (HC.out).mono ?_
  rintro e w3 ⟨rfl, hb3⟩
  have HD3 := Lib.hid (HD.out _ _ HD2.out hb3)
  clear hb3
  go_wp2
  go_ret
  exact ⟨rfl, HD3.out⟩
set_option maxRecDepth 100000 in
theorem change_sync {w : World} {t : Nat} {T : Tp} {a0 : Nat} (hG : Glob w) (hT : TapeAt w t T) (hs : spent T = false) (hg : 1 ≠ t) (D : World → Prop) (hD : ∀ W W', D W → Below W.heap.size W W' → D W') (hDG : ∀ W, D W → Glob W)
    (hdo : Calls Tryd.prog 43 #[.pointer (some ⟨a0, 0, none⟩)] (burntW w t T) fun e w' => e = .returned (.tuple #[]) ∧ D w') :
    Calls Tryd.prog 32 #[.pointer (some ⟨t, 0, none⟩), .nilIface, .func (.func 43) #[] #[.pointer (some ⟨a0, 0, none⟩)]] w fun e w' => e = .returned (.int .i64 0) ∧ D w' := by
  have HB := Lib.hid (burn_ok hT hs)
  have HDO := Lib.hid hdo
  have HD := Lib.hid hD
  have HDG := Lib.hid hDG
  clear hT hs hG hdo hD hDG
  go_enter Tryd.func32, Tryd.ntmps32
  go_wp2_with fail
  refine (HB.out).mono ?_
  rintro e w1 ⟨rfl, rfl⟩
  go_wp2_with fail
  refine (HDO.out).mono ?_
  rintro e w2 ⟨rfl, hd⟩
  have HC := Lib.hid (code_nil (HDG.out _ hd))
  have HD2 := Lib.hid hd
  clear hd
  go_wp2_with fail
  refine (HC.out).mono ?_
  rintro e w3 ⟨rfl, hb3⟩
  have HD3 := Lib.hid (HD.out _ _ HD2.out hb3)
  clear hb3
  go_wp2
  go_ret
  exact ⟨rfl, HD3.out⟩
set_option maxRecDepth 100000 in
theorem change_trim {w : World} {t : Nat} {T : Tp} {a0 a1 : Nat} (hG : Glob w) (hT : TapeAt w t T) (hs : spent T = false) (hg : 1 ≠ t) (D : World → Prop) (hD : ∀ W W', D W → Below W.heap.size W W' → D W') (hDG : ∀ W, D W → Glob W)
    (hdo : Calls Tryd.prog 45 #[.pointer (some ⟨a0, 0, none⟩), .pointer (some ⟨a1, 0, none⟩)] (burntW w t T) fun e w' => e = .returned (.tuple #[]) ∧ D w') :
    Calls Tryd.prog 32 #[.pointer (some ⟨t, 0, none⟩), .nilIface, .func (.func 45) #[] #[.pointer (some ⟨a0, 0, none⟩), .pointer (some ⟨a1, 0, none⟩)]] w fun e w' => e = .returned (.int .i64 0) ∧ D w' := by
  have HB := Lib.hid (burn_ok hT hs)
  have HDO := Lib.hid hdo
  have HD := Lib.hid hD
  have HDG := Lib.hid hDG
  clear hT hs hG hdo hD hDG
  go_enter Tryd.func32, Tryd.ntmps32
  go_wp2_with fail
  refine (HB.out).mono ?_
  rintro e w1 ⟨rfl, rfl⟩
  go_wp2_with fail
  refine (HDO.out).mono ?_
  rintro e w2 ⟨rfl, hd⟩
  have HC := Lib.hid (code_nil (HDG.out _ hd))
  have HD2 := Lib.hid hd
  clear hd
  go_wp2_with fail
  refine (HC.out).mono ?_
  rintro e w3 ⟨rfl, hb3⟩
  have HD3 := Lib.hid (HD.out _ _ HD2.out hb3)
  clear hb3
  go_wp2
  go_ret
  exact ⟨rfl, HD3.out⟩
set_option maxRecDepth 100000 in
theorem change_drop {w : World} {t : Nat} {T : Tp} {a0 a1 : Nat} (hG : Glob w) (hT : TapeAt w t T) (hs : spent T = false) (hg : 1 ≠ t) (D : World → Prop) (hD : ∀ W W', D W → Below W.heap.size W W' → D W') (hDG : ∀ W, D W → Glob W)
    (hdo : Calls Tryd.prog 37 #[.pointer (some ⟨a0, 0, none⟩), .pointer (some ⟨a1, 0, none⟩)] (burntW w t T) fun e w' => e = .returned (.tuple #[]) ∧ D w') :
    Calls Tryd.prog 32 #[.pointer (some ⟨t, 0, none⟩), .nilIface, .func (.func 37) #[] #[.pointer (some ⟨a0, 0, none⟩), .pointer (some ⟨a1, 0, none⟩)]] w fun e w' => e = .returned (.int .i64 0) ∧ D w' := by
  have HB := Lib.hid (burn_ok hT hs)
  have HDO := Lib.hid hdo
  have HD := Lib.hid hD
  have HDG := Lib.hid hDG
  clear hT hs hG hdo hD hDG
  go_enter Tryd.func32, Tryd.ntmps32
  go_wp2_with fail
  refine (HB.out).mono ?_
  rintro e w1 ⟨rfl, rfl⟩
  go_wp2_with fail
  refine (HDO.out).mono ?_
  rintro e w2 ⟨rfl, hd⟩
  have HC := Lib.hid (code_nil (HDG.out _ hd))
  have HD2 := Lib.hid hd
  clear hd
  go_wp2_with fail
  refine (HC.out).mono ?_
  rintro e w3 ⟨rfl, hb3⟩
  have HD3 := Lib.hid (HD.out _ _ HD2.out hb3)
  clear hb3
  go_wp2
  go_ret
  exact ⟨rfl, HD3.out⟩
end Go.Proofs.YtojmfjmnfpnmmaaDoor
