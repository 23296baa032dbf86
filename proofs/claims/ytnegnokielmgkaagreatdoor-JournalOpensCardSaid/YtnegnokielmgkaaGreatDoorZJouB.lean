/- The journal: bytes that lie apart from what is changed; what a body says. The journal: the state and the records of a piece. -/
import Derived.Test.YtnegnokielmgkaaGreatDoorZCrcV
import Derived.Test.YtnegnokielmgkaaGreatDoorZKepB
import Derived.Deep.RegionHeld
import Derived.Deep.LoopGhost
set_option linter.unusedSimpArgs false
set_option linter.unusedVariables false
set_option linter.unnecessarySimpa false
namespace Go.Proofs.YtnegnokielmgkaaGreatDoor
open Go.RowKit

/-- A value that reads as bytes; its block, if it has one, is one of F. -/
def BF (w : World) (F : Nat → Prop) (v : Value) (l : List UInt8) : Prop := BIs w v l ∧ ∀ a n c, v = .slice (some a) n c → F a.block ∧ a.block < w.heap.size
theorem BF.keep {w w' : World} {F : Nat → Prop} {v : Value} {l : List UInt8} (h : BF w F v l) (hs : w.heap.size ≤ w'.heap.size) (hk : ∀ k, k < w.heap.size → F k → w'.heap[k]? = w.heap[k]?) : BF w' F v l := by
  obtain ⟨⟨A, cap, rfl, h1, h2, h3⟩, h4⟩ := h
  refine ⟨⟨A, cap, rfl, h1, h2, fun i b hi => ?_⟩, fun a n c e => ⟨(h4 a n c e).1, Nat.lt_of_lt_of_le (h4 a n c e).2 hs⟩⟩
  obtain ⟨a, rfl, k1, k2⟩ := h3 i b hi
  exact ⟨a, rfl, Nat.lt_of_lt_of_le k1 hs, (World.cell?_of_block (a := a.add i) (by rw [add_block]; exact hk _ k1 (h4 _ _ _ rfl).1)).trans k2⟩
theorem BF.touch {S F : Nat → Prop} {w w' : World} {v : Value} {l : List UInt8} (h : BF w F v l) (ht : Touch S w w') (hF : ∀ k, F k → ¬ S k) : BF w' F v l := h.keep ht.size fun k hk hf => ht.block k hk (hF k hf)
theorem BF.below {F : Nat → Prop} {w w' : World} {v : Value} {l : List UInt8} (h : BF w F v l) (hb : Below w.heap.size w w') : BF w' F v l := h.keep hb.size fun k hk _ => hb.block k hk
theorem BF.mono {F G : Nat → Prop} {w : World} {v : Value} {l : List UInt8} (h : BF w F v l) (hG : ∀ k, k < w.heap.size → F k → G k) : BF w G v l := ⟨h.1, fun a n c e => ⟨hG _ (h.2 a n c e).2 (h.2 a n c e).1, (h.2 a n c e).2⟩⟩
theorem BF.nil (w : World) (F : Nat → Prop) : BF w F (.slice none 0 0) [] := ⟨bis_empty none 0 (by unfold maxLen; omega), fun a n c e => by cases e⟩
/-- Values that read as bytes, each by its own. -/
def BFs (w : World) (F : Nat → Prop) (xs : List Value) (ls : List (List UInt8)) : Prop := xs.length = ls.length ∧ ∀ (i : Nat) (x : Value) (l : List UInt8), xs[i]? = some x → ls[i]? = some l → BF w F x l
theorem BFs.nil (w : World) (F : Nat → Prop) : BFs w F [] [] := ⟨rfl, fun i x l hx => by simp at hx⟩
theorem BFs.keep {w w' : World} {F : Nat → Prop} {xs : List Value} {ls : List (List UInt8)} (h : BFs w F xs ls) (hs : w.heap.size ≤ w'.heap.size) (hk : ∀ k, k < w.heap.size → F k → w'.heap[k]? = w.heap[k]?) : BFs w' F xs ls := ⟨h.1, fun i x l hx hl => (h.2 i x l hx hl).keep hs hk⟩
theorem BFs.touch {S F : Nat → Prop} {w w' : World} {xs : List Value} {ls : List (List UInt8)} (h : BFs w F xs ls) (ht : Touch S w w') (hF : ∀ k, F k → ¬ S k) : BFs w' F xs ls := h.keep ht.size fun k hk hf => ht.block k hk (hF k hf)
theorem BFs.below {F : Nat → Prop} {w w' : World} {xs : List Value} {ls : List (List UInt8)} (h : BFs w F xs ls) (hb : Below w.heap.size w w') : BFs w' F xs ls := h.keep hb.size fun k hk _ => hb.block k hk
theorem BFs.mono {F G : Nat → Prop} {w : World} {xs : List Value} {ls : List (List UInt8)} (h : BFs w F xs ls) (hG : ∀ k, k < w.heap.size → F k → G k) : BFs w G xs ls := ⟨h.1, fun i x l hx hl => (h.2 i x l hx hl).mono hG⟩
theorem BFs.append {F : Nat → Prop} {w : World} {xs ys : List Value} {ls ms : List (List UInt8)} (h : BFs w F xs ls) (k : BFs w F ys ms) : BFs w F (xs ++ ys) (ls ++ ms) := by
  refine ⟨by simp [h.1, k.1], fun i x l hx hl => ?_⟩
  by_cases hi : i < xs.length
  · rw [List.getElem?_append_left hi] at hx
    rw [List.getElem?_append_left (by rw [← h.1]; exact hi)] at hl
    exact h.2 i x l hx hl
  · rw [List.getElem?_append_right (by omega)] at hx
    rw [List.getElem?_append_right (by rw [← h.1]; omega), ← h.1] at hl
    exact k.2 _ x l hx hl
theorem BFs.one {F : Nat → Prop} {w : World} {x : Value} {l : List UInt8} (h : BF w F x l) : BFs w F [x] [l] := by
  refine ⟨rfl, fun i y m hy hm => ?_⟩
  cases i with
  | zero =>
    obtain rfl : x = y := by simpa using hy
    obtain rfl : l = m := by simpa using hm
    exact h
  | succ i => simp at hy
/-- A slice whose elements are these values, each one cell. -/
def VIs (w : World) (F : Nat → Prop) (v : Value) (xs : List Value) : Prop :=
  ∃ A cap, v = .slice A xs.length cap ∧ xs.length ≤ cap ∧ cap ≤ maxLen ∧ (∀ a, A = some a → F a.block ∧ a.block < w.heap.size) ∧ ∀ (i : Nat) (x : Value), xs[i]? = some x → ∃ a, A = some a ∧ w.cell? (a.add i) = some x
theorem VIs.keep {w w' : World} {F : Nat → Prop} {v : Value} {xs : List Value} (h : VIs w F v xs) (hs : w.heap.size ≤ w'.heap.size) (hk : ∀ k, k < w.heap.size → F k → w'.heap[k]? = w.heap[k]?) : VIs w' F v xs := by
  obtain ⟨A, cap, rfl, h1, h2, h3, h4⟩ := h
  refine ⟨A, cap, rfl, h1, h2, fun a e => ⟨(h3 a e).1, Nat.lt_of_lt_of_le (h3 a e).2 hs⟩, fun i x hx => ?_⟩
  obtain ⟨a, rfl, hc⟩ := h4 i x hx
  exact ⟨a, rfl, (World.cell?_of_block (a := a.add i) (by rw [add_block]; exact hk _ (h3 a rfl).2 (h3 a rfl).1)).trans hc⟩
theorem VIs.touch {S F : Nat → Prop} {w w' : World} {v : Value} {xs : List Value} (h : VIs w F v xs) (ht : Touch S w w') (hF : ∀ k, F k → ¬ S k) : VIs w' F v xs := h.keep ht.size fun k hk hf => ht.block k hk (hF k hf)
theorem VIs.below {F : Nat → Prop} {w w' : World} {v : Value} {xs : List Value} (h : VIs w F v xs) (hb : Below w.heap.size w w') : VIs w' F v xs := h.keep hb.size fun k hk _ => hb.block k hk
theorem VIs.mono {F G : Nat → Prop} {w : World} {v : Value} {xs : List Value} (h : VIs w F v xs) (hG : ∀ k, k < w.heap.size → F k → G k) : VIs w G v xs := by
  obtain ⟨A, cap, rfl, h1, h2, h3, h4⟩ := h
  exact ⟨A, cap, rfl, h1, h2, fun a e => ⟨hG _ (h3 a e).2 (h3 a e).1, (h3 a e).2⟩, h4⟩
theorem VIs.nil (w : World) (F : Nat → Prop) : VIs w F (.slice none 0 0) [] := ⟨none, 0, rfl, Nat.le_refl _, by unfold maxLen; omega, (fun a e => by cases e), (fun i x hx => by simp at hx)⟩
theorem OwnS.vis {w : World} {base : Nat} {v : Value} {xs : List Value} (h : OwnS w base v xs) : VIs w (fun k => base ≤ k) v xs := by
  rcases h with ⟨rfl, rfl⟩ | ⟨g, cap, rfl, ho⟩
  · exact VIs.nil _ _
  · refine ⟨_, cap, rfl, ho.le, ho.max, fun a e => ?_, fun i x hx => ⟨_, rfl, ?_⟩⟩
    · cases e
      exact ⟨ho.new, ho.lt⟩
    · rw [add0]
      exact ho.holds i x hx
theorem pis_of {w : World} {F : Nat → Prop} {v : Value} {xs : List Value} {ls : List (List UInt8)} (h : VIs w F v xs) (k : BFs w F xs ls) : PIs w v ls := by
  obtain ⟨A, cap, rfl, h1, h2, h3, h4⟩ := h
  refine ⟨A, cap, by rw [k.1], by rw [← k.1]; exact h1, h2, fun i l hl => ?_⟩
  have hi : i < xs.length := by rw [k.1]; exact (List.getElem?_eq_some_iff.1 hl).1
  obtain ⟨a, rfl, hc⟩ := h4 i _ (List.getElem?_eq_getElem hi)
  exact ⟨a, _, rfl, (h3 a rfl).2, hc, (k.2 i _ l (List.getElem?_eq_getElem hi) hl).1⟩

/-! says -/
def saysB (k : Nat) : List UInt8 → Option (List UInt8)
  | [] => none
  | x :: r => if x.toNat = k then some r else none
def SaysP (w : World) (F : Nat → Prop) (k : Nat) (l : List UInt8) (e : Ending) (w' : World) : Prop :=
  w = w' ∧ ((∃ r v, saysB k l = some r ∧ e = .returned (.tuple #[v, .bool true]) ∧ BF w F v r) ∨ (saysB k l = none ∧ e = .returned (.tuple #[.slice none 0 0, .bool false])))
set_option maxRecDepth 100000 in
set_option maxHeartbeats 1000000 in
theorem says_any {w : World} {F : Nat → Prop} {v : Value} {l : List UInt8} (h : BF w F v l) (k : Nat) : Calls Tryz.prog 109 #[v, .int .u8 (k : Int)] w (SaysP w F k l) := by
  have HBF := Lib.hid h
  obtain ⟨⟨A, cap, rfl, h1, h2, h3⟩, h4⟩ := h
  have H3 := Lib.hid h3
  unfold maxLen at h2
  clear h3 h4
  cases l with
  | nil =>
    go_enter Tryz.func109, Tryz.ntmps109
    go_wp2_with fail
    go_ret2
    exact ⟨rfl, .inr ⟨rfl, rfl⟩⟩
  | cons x r =>
    obtain ⟨a, rfl, hab, hc⟩ := H3.out 0 x rfl
    have hc' : w.cell? a = some (.int .u8 (x.toNat : Int)) := hc
    have hl0 : ((r.length + 1 : Nat) : Int) = (r.length : Int) + 1 := by omega
    have hz : (((r.length : Int) + 1) == 0) = false := by rw [beq_eq_false_iff_ne]; omega
    have hz2 : ¬ (r.length : Int) + 1 = 0 := by omega
    have hlen : 0 < r.length + 1 := by omega
    have hcap : 1 ≤ cap := by simpa using Nat.le_trans (by simp) h1
    rw [List.length_cons] at h1
    by_cases hk : x.toNat = k
    · have hb : ((x.toNat : Int) != (k : Int)) = false := by rw [bne_eq_false_iff_eq]; exact_mod_cast hk
      have hs : saysB k (x :: r) = some r := if_pos hk
      by_cases hc1 : cap = 1
      · obtain rfl : r = [] := List.length_eq_zero_iff.1 (by omega)
        subst hc1
        clear hc hk
        go_enter Tryz.func109, Tryz.ntmps109
        go_wp2_with fail
        go_ret2
        refine ⟨rfl, .inl ⟨[], _, hs, rfl, bis_empty _ _ (by unfold maxLen; omega), fun a' n' c' e => ?_⟩⟩
        injection e with e _ _
        injection e with e
        subst e
        exact HBF.out.2 a _ _ rfl
      · have HSL : Hid (BF w F (.slice (some ⟨a.block, a.off + 1, none⟩) r.length (cap - 1)) r) := by
          obtain ⟨a', c', e, _, _, hat⟩ := HBF.out.1.at (by simp)
          injection e with e e2 e3
          injection e with e
          subst e
          have := hat.from 1 r.length cap (by simp; omega) (by simpa using h1) (by unfold maxLen; omega)
          refine ⟨by simpa [Addr.add] using this, fun a' n' c' e => ?_⟩
          injection e with e _ _
          injection e with e
          subst e
          exact HBF.out.2 a _ _ rfl
        clear hc hk
        go_enter Tryz.func109, Tryz.ntmps109
        go_wp2_with fail
        go_ret2
        exact ⟨rfl, .inl ⟨r, _, hs, rfl, HSL.out⟩⟩
    · have hb : ((x.toNat : Int) != (k : Int)) = true := by rw [bne_iff_ne]; exact_mod_cast hk
      have hs : saysB k (x :: r) = none := if_neg hk
      clear hc hk
      go_enter Tryz.func109, Tryz.ntmps109
      go_wp2_with fail
      go_ret2
      exact ⟨rfl, .inr ⟨hs, rfl⟩⟩
end Go.Proofs.YtnegnokielmgkaaGreatDoor

namespace Go.Proofs.YtnegnokielmgkaaGreatDoor
open Go.RowKit

/-- A piece's value: the segment's number, the bodies of its frames, how many bytes these have, how many there are. -/
def pieceV (n : Int) (bv : Value) (wh sz : Int) : Value := .agg #[.int .i64 n, bv, .int .i64 wh, .int .i64 sz]
def checkB (ls : List (List UInt8)) : Option (List UInt8) := match ls with
  | [] => none
  | l :: _ => saysB 1 l
def CheckP (w : World) (F : Nat → Prop) (ls : List (List UInt8)) (e : Ending) (w' : World) : Prop :=
  Below w.heap.size w w' ∧ ((∃ r v, checkB ls = some r ∧ e = .returned (.tuple #[v, .bool true]) ∧ BF w' F v r) ∨ (checkB ls = none ∧ e = .returned (.tuple #[.slice none 0 0, .bool false])))
set_option maxRecDepth 100000 in
set_option maxHeartbeats 1000000 in
theorem check_any {w : World} {F : Nat → Prop} {n wh sz : Int} {bv : Value} {xs : List Value} {ls : List (List UInt8)} (h : VIs w F bv xs) (k : BFs w F xs ls) : Calls Tryz.prog 93 #[pieceV n bv wh sz] w (CheckP w F ls) := by
  have HV := Lib.hid h
  have HX := Lib.hid k
  obtain ⟨A, cap, rfl, h1, h2, h3, h4⟩ := h
  have H4 := Lib.hid h4
  unfold maxLen at h2
  unfold pieceV
  clear h3 h4
  have hlen := k.1
  cases ls with
  | nil =>
    obtain rfl : xs = [] := List.length_eq_zero_iff.1 hlen
    clear k hlen
    go_enter Tryz.func93, Tryz.ntmps93
    go_wp2_with fail
    go_ret2
    exact ⟨below_new _, .inr ⟨rfl, rfl⟩⟩
  | cons l ls =>
    cases xs with
    | nil => simp at hlen
    | cons x xs =>
      have hB := Lib.hid ((k.2 0 x l rfl rfl).below (below_new (w := w) (.cells #[.int .i64 n, .slice A (xs.length + 1) cap, .int .i64 wh, .int .i64 sz] 141)))
      have HSY := Lib.hid (says_any hB.out 1)
      obtain ⟨a, rfl, hc⟩ := H4.out 0 x rfl
      have hab := (HV.out.below (below_new (w := w) (.cells #[.int .i64 n, .slice (some a) (xs.length + 1) cap, .int .i64 wh, .int .i64 sz] 141)))
      obtain ⟨A', c', e', _, _, h3', h4'⟩ := hab
      injection e' with e' e2 e3
      subst e'
      obtain ⟨a', e', hc'⟩ := h4' 0 x rfl
      injection e' with e'
      subst e'
      replace hc' : (w.alloc (.cells #[.int .i64 n, .slice (some a) (xs.length + 1) cap, .int .i64 wh, .int .i64 sz] 141)).cell? a = some x := hc'
      have hl0 : ((xs.length + 1 : Nat) : Int) = (xs.length : Int) + 1 := by omega
      have hz : (((xs.length : Int) + 1) == 0) = false := by rw [beq_eq_false_iff_ne]; omega
      have hz2 : ¬ (xs.length : Int) + 1 = 0 := by omega
      have hlen0 : 0 < xs.length + 1 := by omega
      rw [List.length_cons] at h1
      clear k hlen hc h3' h4' e2 e3
      go_enter Tryz.func93, Tryz.ntmps93
      go_wp2_with fail
      refine (HSY.out).mono ?_
      rintro e w1 ⟨rfl, hs⟩
      rcases hs with ⟨r, v, h1, rfl, h2⟩ | ⟨h1, rfl⟩
      · have H2 := Lib.hid h2
        have H1 := Lib.hid h1
        clear h1 h2
        go_wp2_with fail
        go_ret2
        exact ⟨below_new _, .inl ⟨r, v, H1.out, rfl, H2.out⟩⟩
      · have H1 := Lib.hid h1
        clear h1
        go_wp2_with fail
        go_ret2
        exact ⟨below_new _, .inr ⟨H1.out, rfl⟩⟩

/-! records -/
def recsB (ls : List (List UInt8)) : List (List UInt8) := ls.filterMap (saysB 0)
theorem recsB_snoc (ls : List (List UInt8)) (l : List UInt8) : recsB (ls ++ [l]) = recsB ls ++ (saysB 0 l).toList := by
  unfold recsB
  rw [List.filterMap_append]
  cases h : saysB 0 l <;> simp [h]
theorem recsB_snoc' (ls : List (List UInt8)) (l : List UInt8) : recsB (ls ++ (some l).toList) = recsB ls ++ (saysB 0 l).toList := recsB_snoc ls l
theorem recsB_len (ls : List (List UInt8)) : (recsB ls).length ≤ ls.length := List.length_filterMap_le _ _
def RecsP (w : World) (F : Nat → Prop) (ls : List (List UInt8)) (e : Ending) (w' : World) : Prop :=
  Below w.heap.size w w' ∧ ∃ v ys, e = .returned v ∧ OwnS w' w.heap.size v ys ∧ BFs w' F ys (recsB ls)
theorem below_grown {w w' : World} {o : Option Nat} {base : Nat} (h : w.grownBy w' o) (hb : base ≤ w.heap.size) (ho : ∀ k, o = some k → base ≤ k) {w0 : World} (h0 : Below base w0 w) : Below base w0 w' := h0.grown h hb ho
theorem BFs.grown {w w' : World} {F : Nat → Prop} {xs : List Value} {ls : List (List UInt8)} {o : Option Nat} (h : BFs w F xs ls) (hg : w.grownBy w' o) (ho : ∀ k, o = some k → ¬ F k) : BFs w' F xs ls := by
  obtain ⟨g1, g2, g3, g4, g5⟩ := hg
  exact h.keep g4 fun k hk hf => g5 k hk fun e => ho k e.symm hf
theorem VIs.grown {w w' : World} {F : Nat → Prop} {v : Value} {xs : List Value} {o : Option Nat} (h : VIs w F v xs) (hg : w.grownBy w' o) (ho : ∀ k, o = some k → ¬ F k) : VIs w' F v xs := by
  obtain ⟨g1, g2, g3, g4, g5⟩ := hg
  exact h.keep g4 fun k hk hf => g5 k hk fun e => ho k e.symm hf
set_option maxRecDepth 100000 in
set_option maxHeartbeats 2000000 in
/-- F has no block that is made behind w. -/
theorem records_any {w : World} {F : Nat → Prop} {n wh sz : Int} {bv : Value} {xs : List Value} {ls : List (List UInt8)} (h : VIs w F bv xs) (k : BFs w F xs ls) (hF : ∀ k, F k → k < w.heap.size) (hl : ls.length ≤ 1000000) : Calls Tryz.prog 94 #[pieceV n bv wh sz] w (RecsP w F ls) := by
  have HV := Lib.hid h
  have HX := Lib.hid k
  have HF := Lib.hid hF
  obtain ⟨A, cap, rfl, h1, h2, h3, h4⟩ := h
  unfold maxLen at h2
  unfold pieceV
  have hlen := k.1
  rw [hlen] at h1 HV
  have HLEN := Lib.hid hlen
  have HA := Lib.hid (below_new (w := w) (.cells #[.int .i64 n, .slice A ls.length cap, .int .i64 wh, .int .i64 sz] 141))
  rw [hlen]
  clear h3 h4 k hF hlen
  go_enter Tryz.func94, Tryz.ntmps94
  go_wp2_with fail
  go_loopw [3, 11] (fun v i wr => ∃ (j : Nat) (ys : List Value), j ≤ ls.length ∧ i = .int .i64 j ∧ OwnS wr w.heap.size v ys ∧ BFs wr F ys (recsB (ls.take j)) ∧ Below w.heap.size w wr) (fun _ i _ => ls.length - (intOf i).toNat)
  case atStart => exact ⟨0, [], by omega, rfl, .inl ⟨rfl, rfl⟩, BFs.nil _ _, HA.out⟩
  case round =>
    obtain ⟨j, ys, hj, rfl, hown, hbf, hb⟩ := hrel
    have HOW := Lib.hid hown
    have HBF := Lib.hid hbf
    have HB := Lib.hid hb
    have HJ := Lib.hid hj
    clear hown hbf hb
    by_cases hlt : j < ls.length
    · have hxj : xs[j]? = some (xs[j]'(by rw [HLEN.out]; exact hlt)) := List.getElem?_eq_getElem _
      have hlj : ls[j]? = some ls[j] := List.getElem?_eq_getElem hlt
      have HLJ := Lib.hid hlj
      have hbx := (HX.out.2 j _ _ hxj hlj).below HB.out
      obtain ⟨A', c', e', _, _, h3', h4'⟩ := HV.out.below HB.out
      injection e' with e' e2 e3
      subst e'
      obtain ⟨a, rfl, hc⟩ := h4' j _ hxj
      generalize xs[j]'(by rw [HLEN.out]; exact hlt) = x at *
      generalize ls[j] = l at *
      have HSY := Lib.hid (says_any hbx 0)
      have HLT := Lib.hid hlt
      have l1 : (j : Int) < (ls.length : Int) := by omega
      clear hxj hlj hbx h3' h4' e2 e3
      go_wp2_with fail
      refine (HSY.out).mono ?_
      rintro e w1 ⟨rfl, hs⟩
      rcases hs with ⟨r, v, k1, rfl, k2⟩ | ⟨k1, rfl⟩
      · have K1 := Lib.hid k1
        have K2 := Lib.hid k2
        obtain ⟨⟨A9, c9, rfl, _, _, _⟩, _⟩ := k2
        have hA := Below.new (w := wr) (.cells #[.slice A9 r.length c9] 32)
        have HO3 := Lib.hid (HOW.out.below hA)
        have HBF3 := Lib.hid (HBF.out.below hA)
        have K3 := Lib.hid (K2.out.below hA)
        have HB3 := Lib.hid (HB.out.trans (hA.mono HB.out.size))
        have src : Hid (Src Tryz.prog 1 42 (.slice (some ⟨wr.heap.size, 0, none⟩) 1 1) [Value.slice A9 r.length c9].length [.slice A9 r.length c9] (wr.alloc (.cells #[.slice A9 r.length c9] 32))) :=
          Src.ofSlice _ Tryz.underlying42 ⟨wr.heap.size, 0, none⟩ 1 1 [.slice A9 r.length c9] rfl (one_new _ _ rfl _ _) (by simp [Value.oneCell'])
        have hyl : ys.length ≤ 1000000 := by
          rw [HBF.out.1]
          have := recsB_len (ls.take j)
          rw [List.length_take] at this
          omega
        have HYL := Lib.hid hyl
        clear hA k1 hyl
        go_wp2_with (at_builtin; refine wpList_append_vals _ rfl _ _ 42 rfl w.heap.size ys [.slice A9 r.length c9] _ _ rfl rfl HO3.out src.out ?_ HB3.out.size ?_)
        · have := HYL.out; simp; omega
        intro v' w' hown' hgrow hblk
        have HOF := Lib.hid hown'
        have hno : ∀ k, (u3).ownBlock = some k → ¬ F k := fun k e hf => by
          have h1 := (HO3.out.lt k e).1
          have h2 := HF.out k hf
          omega
        have HBFF := Lib.hid (((HBF3.out).append (BFs.one K3.out)).grown hgrow hno)
        have HBG := Lib.hid (HB3.out.grown hgrow HB3.out.size (fun k hk => (HO3.out.lt k hk).1))
        clear hown' hgrow hblk hno hc
        go_wp2_with fail
        go_roundw
        case rel =>
          refine ⟨j + 1, _, HLT.out, by go_num, HOF.out, ?_, HBG.out⟩
          rw [List.take_add_one, HLJ.out, recsB_snoc', K1.out]
          exact HBFF.out
        case measure => simp [intOf]; omega
      · have K1 := Lib.hid k1
        clear k1 hc
        go_wp2_with fail
        go_roundw
        case rel =>
          refine ⟨j + 1, ys, HLT.out, by go_num, HOW.out, ?_, HB.out⟩
          rw [List.take_add_one, HLJ.out, recsB_snoc', K1.out]
          simpa using HBF.out
        case measure => simp [intOf]; omega
    · obtain rfl : j = ls.length := by omega
      go_wp2_with fail
      go_ret
      refine ⟨HB.out, _, ys, rfl, HOW.out, ?_⟩
      have := HBF.out
      rwa [List.take_length] at this
end Go.Proofs.YtnegnokielmgkaaGreatDoor
