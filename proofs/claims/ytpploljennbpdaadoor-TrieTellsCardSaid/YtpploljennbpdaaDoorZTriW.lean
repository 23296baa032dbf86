/- trie: a slice of paths; each, check (gentriw.py wrote it). -/
import Derived.Test.YtpploljennbpdaaDoorZTriV
set_option linter.unusedSimpArgs false
set_option linter.unusedVariables false
set_option linter.unnecessarySimpa false
namespace Go.Proofs.YtpploljennbpdaaDoor
open Go.RowKit Go.Shelf

/-- A slice of paths, wherever it lies. -/
def PsIs (w : World) (v : Value) (L : List Pth) : Prop := ∃ A cap, v = .slice A L.length cap ∧ L.length ≤ cap ∧ cap ≤ maxLen ∧ ∀ (i : Nat) (p : Pth), L[i]? = some p → ∃ (a : Addr) (pv : Value), A = some a ∧ a.block < w.heap.size ∧ w.cell? (a.add i) = some pv ∧ SIs w pv p
theorem PsIs.form {w : World} {v : Value} {L : List Pth} (h : PsIs w v L) : ∃ A cap, v = .slice A L.length cap ∧ L.length ≤ cap ∧ cap ≤ maxLen := by
  obtain ⟨A, cap, e, h1, h2, _⟩ := h
  exact ⟨A, cap, e, h1, h2⟩
theorem PsIs.at {w : World} {A : Option Addr} {n cap : Nat} {L : List Pth} (h : PsIs w (.slice A n cap) L) {i : Nat} {p : Pth} (hx : L[i]? = some p) : ∃ (a : Addr) (pv : Value), A = some a ∧ a.block < w.heap.size ∧ w.cell? (a.add i) = some pv ∧ SIs w pv p := by
  obtain ⟨_, _, e', _, _, hc⟩ := h
  injection e' with e1 _ e3
  subst e1 e3
  exact hc i p hx
theorem PsIs.below {w w' : World} {v : Value} {L : List Pth} (h : PsIs w v L) (hb : Below w.heap.size w w') : PsIs w' v L := by
  obtain ⟨A, cap, e, h1, h2, h3⟩ := h
  refine ⟨A, cap, e, h1, h2, fun i x hx => ?_⟩
  obtain ⟨a, pv, ea, hl, hc, hs⟩ := h3 i x hx
  exact ⟨a, pv, ea, Nat.lt_of_lt_of_le hl hb.size, (hb.cell (p := a.add i) (by rw [add_block]; exact hl)).trans hc, hs.below hb⟩
theorem bound10 {L : List Pth} (h : ∀ p ∈ L, p.length ≤ 1000) {i : Nat} {p : Pth} (hx : L[i]? = some p) : p.length ≤ 1000 := h p (List.mem_of_getElem? hx)
theorem all_take {f : Pth → Bool} {L : List Pth} {k : Nat} {p : Pth} (h : (L.take k).all f = true) (hx : L[k]? = some p) (hp : f p = true) : (L.take (k + 1)).all f = true := by
  rw [List.take_add_one, hx, List.all_append, h]
  simp [hp]
theorem all_not {f : Pth → Bool} {L : List Pth} {k : Nat} {p : Pth} (hx : L[k]? = some p) (hp : f p = false) : L.all f = false := by
  rw [List.all_eq_false]
  exact ⟨p, List.mem_of_getElem? hx, by rw [hp]; simp⟩
set_option maxRecDepth 100000 in
set_option maxHeartbeats 2000000 in
theorem each_filled {w : World} {v : Value} {L : List Pth} (h : PsIs w v L) (hL : L.length ≤ 1000) (hl : ∀ p ∈ L, p.length ≤ 1000) : Calls Tryd.prog 47 #[v, .func (.func 48) #[] #[]] w (LookP (L.all filledB) w 4 2) := by
  obtain ⟨A, cap, rfl, h1, h2⟩ := h.form
  unfold maxLen at h2
  have hLI : (L.length : Int) ≤ 1000 := by omega
  have HH := Lib.hid h
  have HLL := Lib.hid hl
  clear h hl
  go_enter Tryd.func47, Tryd.ntmps47
  go_wp2_with fail
  go_loopw [10] (fun iv wr => ∃ k : Nat, k ≤ L.length ∧ iv = .int .i64 k ∧ Below w.heap.size w wr ∧ (L.take k).all filledB = true) (fun iv _ => L.length - (intOf iv).toNat)
  case atStart => exact ⟨0, Nat.zero_le _, rfl, Below.refl _ _, rfl⟩
  case round =>
    obtain ⟨k, hk, rfl, hbw, hno⟩ := hrel
    have HB := Lib.hid hbw
    have HNO := Lib.hid hno
    by_cases hlt : k < L.length
    · have hx : L[k]? = some L[k] := List.getElem?_eq_getElem hlt
      generalize L[k] = p at hx
      obtain ⟨a, pv, rfl, _, kc, hs⟩ := (HH.out.below hbw).at hx
      have hi : (k : Int) < (L.length : Int) := by omega
      have HLT := Lib.hid hlt
      have HX := Lib.hid hx
      have HC := Lib.hid (filled_any hs (bound10 HLL.out hx))
      clear hx hno hk hlt hbw hs
      go_wp2_with fail
      refine (HC.out).mono ?_
      rintro e w1 ⟨hb1, hr⟩
      have HB1 := Lib.hid (HB.out.trans (hb1.mono HB.out.size))
      rcases hr with ⟨hok, rfl⟩ | ⟨hok, ev, rfl, he⟩
      · have HT := Lib.hid (all_take HNO.out HX.out hok)
        clear hb1 hok
        go_wp2_with fail
        go_roundw
        case rel => exact ⟨k + 1, HLT.out, by go_num, HB1.out, HT.out⟩
        case measure => have := HLT.out; simp [intOf]; omega
      · have HF := Lib.hid (all_not HX.out hok)
        have hw1 : w.heap.size ≤ w1.heap.size := HB1.out.size
        have he2 := ErrN.mono he HB.out.size
        obtain ⟨t, u, rfl⟩ := he2.form
        have HA := Lib.hid (errAt (p := (k : Int)) he2 hw1)
        clear hb1 hok he he2 hw1
        go_wp2_with fail
        refine (HA.out).mono ?_
        rintro e w2 ⟨ev2, rfl, g1, g2⟩
        have G1 := Lib.hid g1
        have G2 := Lib.hid (HB1.out.trans (g2.mono HB1.out.size))
        clear g1 g2
        go_wp2_with fail
        refine bodyPost_ret (v := ev2) (by simp [results, Tryd.results47, go_sem]) rfl (LookP.bad HF.out G2.out G1.out)
    · obtain rfl : k = L.length := by omega
      have HT : Hid (L.all filledB = true) := Lib.hid (by have := hno; rw [List.take_length] at this; exact this)
      have hn : ¬ (L.length : Int) < (L.length : Int) := by omega
      clear hlt hk hno hbw
      go_wp2_with fail
      go_ret
      exact LookP.good HT.out HB.out
set_option maxRecDepth 100000 in
set_option maxHeartbeats 2000000 in
theorem each_short {w : World} {v : Value} {L : List Pth} (h : PsIs w v L) (hL : L.length ≤ 1000) (hl : ∀ p ∈ L, p.length ≤ 1000) : Calls Tryd.prog 47 #[v, .func (.func 50) #[] #[]] w (LookP (L.all shortB) w 4 7) := by
  obtain ⟨A, cap, rfl, h1, h2⟩ := h.form
  unfold maxLen at h2
  have hLI : (L.length : Int) ≤ 1000 := by omega
  have HH := Lib.hid h
  have HLL := Lib.hid hl
  clear h hl
  go_enter Tryd.func47, Tryd.ntmps47
  go_wp2_with fail
  go_loopw [10] (fun iv wr => ∃ k : Nat, k ≤ L.length ∧ iv = .int .i64 k ∧ Below w.heap.size w wr ∧ (L.take k).all shortB = true) (fun iv _ => L.length - (intOf iv).toNat)
  case atStart => exact ⟨0, Nat.zero_le _, rfl, Below.refl _ _, rfl⟩
  case round =>
    obtain ⟨k, hk, rfl, hbw, hno⟩ := hrel
    have HB := Lib.hid hbw
    have HNO := Lib.hid hno
    by_cases hlt : k < L.length
    · have hx : L[k]? = some L[k] := List.getElem?_eq_getElem hlt
      generalize L[k] = p at hx
      obtain ⟨a, pv, rfl, _, kc, hs⟩ := (HH.out.below hbw).at hx
      have hi : (k : Int) < (L.length : Int) := by omega
      have HLT := Lib.hid hlt
      have HX := Lib.hid hx
      have HC := Lib.hid (short_any hs)
      clear hx hno hk hlt hbw hs
      go_wp2_with fail
      refine (HC.out).mono ?_
      rintro e w1 ⟨hb1, hr⟩
      have HB1 := Lib.hid (HB.out.trans (hb1.mono HB.out.size))
      rcases hr with ⟨hok, rfl⟩ | ⟨hok, ev, rfl, he⟩
      · have HT := Lib.hid (all_take HNO.out HX.out hok)
        clear hb1 hok
        go_wp2_with fail
        go_roundw
        case rel => exact ⟨k + 1, HLT.out, by go_num, HB1.out, HT.out⟩
        case measure => have := HLT.out; simp [intOf]; omega
      · have HF := Lib.hid (all_not HX.out hok)
        have hw1 : w.heap.size ≤ w1.heap.size := HB1.out.size
        have he2 := ErrN.mono he HB.out.size
        obtain ⟨t, u, rfl⟩ := he2.form
        have HA := Lib.hid (errAt (p := (k : Int)) he2 hw1)
        clear hb1 hok he he2 hw1
        go_wp2_with fail
        refine (HA.out).mono ?_
        rintro e w2 ⟨ev2, rfl, g1, g2⟩
        have G1 := Lib.hid g1
        have G2 := Lib.hid (HB1.out.trans (g2.mono HB1.out.size))
        clear g1 g2
        go_wp2_with fail
        refine bodyPost_ret (v := ev2) (by simp [results, Tryd.results47, go_sem]) rfl (LookP.bad HF.out G2.out G1.out)
    · obtain rfl : k = L.length := by omega
      have HT : Hid (L.all shortB = true) := Lib.hid (by have := hno; rw [List.take_length] at this; exact this)
      have hn : ¬ (L.length : Int) < (L.length : Int) := by omega
      clear hlt hk hno hbw
      go_wp2_with fail
      go_ret
      exact LookP.good HT.out HB.out
set_option maxRecDepth 100000 in
set_option maxHeartbeats 2000000 in
theorem each_simple {w : World} {v : Value} {L : List Pth} (h : PsIs w v L) (hL : L.length ≤ 1000) (hl : ∀ p ∈ L, p.length ≤ 1000) : Calls Tryd.prog 47 #[v, .func (.func 51) #[] #[]] w (LookP (L.all simpleB) w 4 42) := by
  obtain ⟨A, cap, rfl, h1, h2⟩ := h.form
  unfold maxLen at h2
  have hLI : (L.length : Int) ≤ 1000 := by omega
  have HH := Lib.hid h
  have HLL := Lib.hid hl
  clear h hl
  go_enter Tryd.func47, Tryd.ntmps47
  go_wp2_with fail
  go_loopw [10] (fun iv wr => ∃ k : Nat, k ≤ L.length ∧ iv = .int .i64 k ∧ Below w.heap.size w wr ∧ (L.take k).all simpleB = true) (fun iv _ => L.length - (intOf iv).toNat)
  case atStart => exact ⟨0, Nat.zero_le _, rfl, Below.refl _ _, rfl⟩
  case round =>
    obtain ⟨k, hk, rfl, hbw, hno⟩ := hrel
    have HB := Lib.hid hbw
    have HNO := Lib.hid hno
    by_cases hlt : k < L.length
    · have hx : L[k]? = some L[k] := List.getElem?_eq_getElem hlt
      generalize L[k] = p at hx
      obtain ⟨a, pv, rfl, _, kc, hs⟩ := (HH.out.below hbw).at hx
      have hi : (k : Int) < (L.length : Int) := by omega
      have HLT := Lib.hid hlt
      have HX := Lib.hid hx
      have HC := Lib.hid (simple_any hs (bound10 HLL.out hx))
      clear hx hno hk hlt hbw hs
      go_wp2_with fail
      refine (HC.out).mono ?_
      rintro e w1 ⟨hb1, hr⟩
      have HB1 := Lib.hid (HB.out.trans (hb1.mono HB.out.size))
      rcases hr with ⟨hok, rfl⟩ | ⟨hok, ev, rfl, he⟩
      · have HT := Lib.hid (all_take HNO.out HX.out hok)
        clear hb1 hok
        go_wp2_with fail
        go_roundw
        case rel => exact ⟨k + 1, HLT.out, by go_num, HB1.out, HT.out⟩
        case measure => have := HLT.out; simp [intOf]; omega
      · have HF := Lib.hid (all_not HX.out hok)
        have hw1 : w.heap.size ≤ w1.heap.size := HB1.out.size
        have he2 := ErrN.mono he HB.out.size
        obtain ⟨t, u, rfl⟩ := he2.form
        have HA := Lib.hid (errAt (p := (k : Int)) he2 hw1)
        clear hb1 hok he he2 hw1
        go_wp2_with fail
        refine (HA.out).mono ?_
        rintro e w2 ⟨ev2, rfl, g1, g2⟩
        have G1 := Lib.hid g1
        have G2 := Lib.hid (HB1.out.trans (g2.mono HB1.out.size))
        clear g1 g2
        go_wp2_with fail
        refine bodyPost_ret (v := ev2) (by simp [results, Tryd.results47, go_sem]) rfl (LookP.bad HF.out G2.out G1.out)
    · obtain rfl : k = L.length := by omega
      have HT : Hid (L.all simpleB = true) := Lib.hid (by have := hno; rw [List.take_length] at this; exact this)
      have hn : ¬ (L.length : Int) < (L.length : Int) := by omega
      clear hlt hk hno hbw
      go_wp2_with fail
      go_ret
      exact LookP.good HT.out HB.out
/-- What check answers. -/
def checkC (L : List Pth) : Int := if L = [] then 2 else if L.all filledB = false then 2 else if 8 < L.length then 7 else if L.all shortB = false then 7 else if L.all simpleB = false then 42 else 0
/-- Nothing, or an error of a code. -/
def ErrP (code : Int) (w : World) (d : Nat) (e : Ending) (w' : World) : Prop := Below w.heap.size w w' ∧ ((code = 0 ∧ e = .returned .nilIface) ∨ (code ≠ 0 ∧ ∃ v, e = .returned v ∧ ErrN w.heap.size w' d code v))
theorem ErrP.bad {c c' : Int} {w w' : World} {d d' : Nat} {v : Value} (h : c = c') (h0 : c' ≠ 0) (hb : Below w.heap.size w w') (hd : d' ≤ d) (he : ErrN w.heap.size w' d' c' v) : ErrP c w d (.returned v) w' := by
  subst h
  obtain ⟨t, u, l, h1, h2, h3, h4⟩ := he
  exact ⟨hb, .inr ⟨h0, v, rfl, t, u, l, h1, h2, by omega, h4⟩⟩
theorem ErrP.good {c : Int} {w w' : World} {d : Nat} (h : c = 0) (hb : Below w.heap.size w w') : ErrP c w d (.returned .nilIface) w' := ⟨hb, .inl ⟨h, rfl⟩⟩
set_option maxRecDepth 100000 in
set_option maxHeartbeats 2000000 in
theorem check_any {w : World} {v : Value} {L : List Pth} (h : PsIs w v L) (hL : L.length ≤ 1000) (hl : ∀ p ∈ L, p.length ≤ 1000) : Calls Tryd.prog 38 #[v] w (ErrP (checkC L) w 4) := by
  obtain ⟨A, cap, rfl, h1, h2⟩ := h.form
  unfold maxLen at h2
  have hLI : (L.length : Int) ≤ 1000 := by omega
  have HF := Lib.hid (each_filled h hL hl)
  have HSH := Lib.hid (fun W (hW : Below w.heap.size w W) => each_short (h.below hW) hL hl)
  have HSI := Lib.hid (fun W (hW : Below w.heap.size w W) => each_simple (h.below hW) hL hl)
  have HN := Lib.hid (new_num 2 (by decide) w)
  have HER := Lib.hid (ErrN.num w.heap.size w (n := 2) (by decide))
  clear h hl
  by_cases h0 : L = []
  · subst h0
    have HC : Hid (checkC [] = 2) := Lib.hid rfl
    clear HF HSH HSI hL hLI
    go_enter Tryd.func38, Tryd.ntmps38
    go_wp2_with fail
    refine (HN.out).mono ?_
    rintro e w2 ⟨rfl, rfl⟩
    go_wp2_with fail
    refine bodyPost_ret (v := .iface 65 (.agg #[.int .i64 2])) (by simp [results, Tryd.results38, go_sem]) rfl (ErrP.bad HC.out (by decide) (Below.refl _ _) (by omega) HER.out)
  · have hz : ((L.length : Int) == 0) = false := by rw [beq_eq_false_iff_ne]; intro e; exact h0 (List.eq_nil_of_length_eq_zero (by omega))
    have H0 := Lib.hid h0
    clear h0
    go_enter Tryd.func38, Tryd.ntmps38
    go_wp2_with fail
    refine (HF.out).mono ?_
    rintro e w1 ⟨hb1, hr⟩
    have HB1 := Lib.hid hb1
    rcases hr with ⟨hok, rfl⟩ | ⟨hok, ev, rfl, he⟩
    · have HOK := Lib.hid hok
      clear hb1 hok
      by_cases h8 : 8 < L.length
      · have hd : (8 : Int) < (L.length : Int) := by omega
        have HC : Hid (checkC L = 7) := Lib.hid (by unfold checkC; rw [if_neg H0.out, if_neg (by rw [HOK.out]; simp), if_pos h8])
        have HT := Lib.hid (toolong_any w1 w.heap.size HB1.out.size (L.length : Int))
        clear h8
        go_wp2_with fail
        refine (HT.out).mono ?_
        rintro e w2 ⟨v2, rfl, g1, g2⟩
        have G1 := Lib.hid g1
        have G2 := Lib.hid (HB1.out.trans (g2.mono HB1.out.size))
        clear g1 g2
        go_wp2_with fail
        refine bodyPost_ret (v := v2) (by simp [results, Tryd.results38, go_sem]) rfl (ErrP.bad HC.out (by decide) G2.out (by omega) G1.out)
      · have hd : ¬ (8 : Int) < (L.length : Int) := by omega
        have H8 := Lib.hid h8
        clear h8
        go_wp2_with fail
        refine (HSH.out w1 HB1.out).mono ?_
        rintro e w2 ⟨hb2, hr⟩
        have HB2 := Lib.hid (HB1.out.trans (hb2.mono HB1.out.size))
        rcases hr with ⟨hok, rfl⟩ | ⟨hok, ev, rfl, he⟩
        · have HOK2 := Lib.hid hok
          clear hb2 hok
          go_wp2_with fail
          refine (HSI.out w2 HB2.out).mono ?_
          rintro e w3 ⟨hb3, hr⟩
          have HB3 := Lib.hid (HB2.out.trans (hb3.mono HB2.out.size))
          rcases hr with ⟨hok, rfl⟩ | ⟨hok, ev, rfl, he⟩
          · have HC : Hid (checkC L = 0) := Lib.hid (by unfold checkC; rw [if_neg H0.out, if_neg (by rw [HOK.out]; simp), if_neg H8.out, if_neg (by rw [HOK2.out]; simp), if_neg (by rw [hok]; simp)])
            clear hb3 hok
            go_wp2_with fail
            go_ret
            exact ErrP.good HC.out HB3.out
          · have HC : Hid (checkC L = 42) := Lib.hid (by unfold checkC; rw [if_neg H0.out, if_neg (by rw [HOK.out]; simp), if_neg H8.out, if_neg (by rw [HOK2.out]; simp), if_pos hok])
            have HE := Lib.hid (ErrN.mono he HB2.out.size)
            clear hb3 hok he
            go_wp2_with fail
            refine bodyPost_ret (v := ev) (by simp [results, Tryd.results38, go_sem]) rfl (ErrP.bad HC.out (by decide) HB3.out (by omega) HE.out)
        · have HC : Hid (checkC L = 7) := Lib.hid (by unfold checkC; rw [if_neg H0.out, if_neg (by rw [HOK.out]; simp), if_neg H8.out, if_pos hok])
          have HE := Lib.hid (ErrN.mono he HB1.out.size)
          obtain ⟨t, u, rfl⟩ := he.form
          clear hb2 hok he
          go_wp2_with fail
          refine bodyPost_ret (v := .iface t u) (by simp [results, Tryd.results38, go_sem]) rfl (ErrP.bad HC.out (by decide) HB2.out (by omega) HE.out)
    · have HC : Hid (checkC L = 2) := Lib.hid (by unfold checkC; rw [if_neg H0.out, if_pos hok])
      have HE := Lib.hid he
      obtain ⟨t, u, rfl⟩ := he.form
      clear hb1 hok he
      go_wp2_with fail
      refine bodyPost_ret (v := .iface t u) (by simp [results, Tryd.results38, go_sem]) rfl (ErrP.bad HC.out (by decide) HB1.out (by omega) HE.out)
end Go.Proofs.YtpploljennbpdaaDoor
