/- trie: slices.Min and Max of a path; filled, short, simple (gentriv.py wrote it). -/
import Derived.Test.YtpploljennbpdaaDoorZTriU
set_option linter.unusedSimpArgs false
set_option linter.unusedVariables false
set_option linter.unnecessarySimpa false
namespace Go.Proofs.YtpploljennbpdaaDoor
open Go.RowKit Go.Shelf

def minP (p : List Int) : Int := match p with | [] => 0 | x :: r => r.foldl min x
theorem minP_take {p : List Int} {k : Nat} {x : Int} (h1 : 1 ≤ k) (hx : p[k]? = some x) : minP (p.take (k + 1)) = min (minP (p.take k)) x := by
  cases p with
  | nil => cases hx
  | cons a r =>
    obtain ⟨k, rfl⟩ : ∃ j, k = j + 1 := ⟨k - 1, by omega⟩
    have hx : r[k]? = some x := hx
    show (r.take (k + 1)).foldl min a = min ((r.take k).foldl min a) x
    rw [List.take_add_one, hx, List.foldl_append]
    rfl
set_option maxRecDepth 100000 in
set_option maxHeartbeats 2000000 in
theorem min_any {w : World} {v : Value} {p : List Int} (h : SIs w v p) (hl : p.length ≤ 1000) (hne : 0 < p.length) : Calls Tryd.prog 56 #[v] w fun e w' => e = .returned (.int .i64 (minP p)) ∧ w' = w := by
  obtain ⟨A, cap, rfl, h1, h2⟩ := h.form
  unfold maxLen at h2
  have HH := Lib.hid h
  have hl' : (p.length : Int) ≤ 1000 := by omega
  have hne' : (0 : Int) < (p.length : Int) := by omega
  have hx0 : p[0]? = some p[0] := List.getElem?_eq_getElem hne
  have hm0 : minP (p.take 1) = p[0] := by
    cases p with
    | nil => simp at hne
    | cons a r => rfl
  generalize p[0] = x0 at hx0 hm0
  obtain ⟨a0, rfl, _, k0⟩ := h.at hx0
  have ea : a0.add 0 = a0 := by unfold Addr.add; split <;> first | rfl | simp_all
  rw [ea] at k0
  have HM0 := Lib.hid hm0
  have hb1 : ¬ (p.length : Int) < 1 := by omega
  clear h hx0 hm0 ea
  go_enter Tryd.func56, Tryd.ntmps56
  go_wp2_with fail
  go_loopw [3, 4] (fun mv iv wr => ∃ k : Nat, 1 ≤ k ∧ k ≤ p.length ∧ iv = .int .i64 k ∧ mv = .int .i64 (minP (p.take k)) ∧ wr = w) (fun _ iv _ => p.length - (intOf iv).toNat)
  case atStart => exact ⟨1, Nat.le_refl _, by omega, rfl, by rw [HM0.out], rfl⟩
  case round =>
    obtain ⟨k, hk1, hk, rfl, rfl, rfl⟩ := hrel
    by_cases hlt : k < p.length
    · have hx : p[k]? = some p[k] := List.getElem?_eq_getElem hlt
      generalize p[k] = y at hx
      obtain ⟨a, e, _, kc⟩ := HH.out.at hx
      injection e with e
      subst e
      have HT := Lib.hid (minP_take hk1 hx)
      have hi : (k : Int) < (p.length : Int) := by omega
      have HLT := Lib.hid hlt
      generalize minP (p.take k) = mm at *
      clear hx hk hlt
      go_wp2_with fail
      go_roundw
      case rel => exact ⟨k + 1, by omega, HLT.out, by go_num, by rw [HT.out], by first | rfl | trivial⟩
      case measure => have := HLT.out; simp [intOf]; omega
    · obtain rfl : k = p.length := by omega
      have HE : Hid (minP (p.take p.length) = minP p) := Lib.hid (by rw [List.take_length])
      generalize minP (p.take p.length) = mm at *
      have hn : ¬ (p.length : Int) < (p.length : Int) := by omega
      clear hlt hk hk1
      go_wp2_with fail
      refine bodyPost_ret (v := .int .i64 mm) (by simp [results, Tryd.results56, go_sem]) rfl ⟨by rw [HE.out], by first | rfl | trivial⟩
def maxP (p : List Int) : Int := match p with | [] => 0 | x :: r => r.foldl max x
theorem maxP_take {p : List Int} {k : Nat} {x : Int} (h1 : 1 ≤ k) (hx : p[k]? = some x) : maxP (p.take (k + 1)) = max (maxP (p.take k)) x := by
  cases p with
  | nil => cases hx
  | cons a r =>
    obtain ⟨k, rfl⟩ : ∃ j, k = j + 1 := ⟨k - 1, by omega⟩
    have hx : r[k]? = some x := hx
    show (r.take (k + 1)).foldl max a = max ((r.take k).foldl max a) x
    rw [List.take_add_one, hx, List.foldl_append]
    rfl
set_option maxRecDepth 100000 in
set_option maxHeartbeats 2000000 in
theorem max_any {w : World} {v : Value} {p : List Int} (h : SIs w v p) (hl : p.length ≤ 1000) (hne : 0 < p.length) : Calls Tryd.prog 57 #[v] w fun e w' => e = .returned (.int .i64 (maxP p)) ∧ w' = w := by
  obtain ⟨A, cap, rfl, h1, h2⟩ := h.form
  unfold maxLen at h2
  have HH := Lib.hid h
  have hl' : (p.length : Int) ≤ 1000 := by omega
  have hne' : (0 : Int) < (p.length : Int) := by omega
  have hx0 : p[0]? = some p[0] := List.getElem?_eq_getElem hne
  have hm0 : maxP (p.take 1) = p[0] := by
    cases p with
    | nil => simp at hne
    | cons a r => rfl
  generalize p[0] = x0 at hx0 hm0
  obtain ⟨a0, rfl, _, k0⟩ := h.at hx0
  have ea : a0.add 0 = a0 := by unfold Addr.add; split <;> first | rfl | simp_all
  rw [ea] at k0
  have HM0 := Lib.hid hm0
  have hb1 : ¬ (p.length : Int) < 1 := by omega
  clear h hx0 hm0 ea
  go_enter Tryd.func57, Tryd.ntmps57
  go_wp2_with fail
  go_loopw [3, 4] (fun mv iv wr => ∃ k : Nat, 1 ≤ k ∧ k ≤ p.length ∧ iv = .int .i64 k ∧ mv = .int .i64 (maxP (p.take k)) ∧ wr = w) (fun _ iv _ => p.length - (intOf iv).toNat)
  case atStart => exact ⟨1, Nat.le_refl _, by omega, rfl, by rw [HM0.out], rfl⟩
  case round =>
    obtain ⟨k, hk1, hk, rfl, rfl, rfl⟩ := hrel
    by_cases hlt : k < p.length
    · have hx : p[k]? = some p[k] := List.getElem?_eq_getElem hlt
      generalize p[k] = y at hx
      obtain ⟨a, e, _, kc⟩ := HH.out.at hx
      injection e with e
      subst e
      have HT := Lib.hid (maxP_take hk1 hx)
      have hi : (k : Int) < (p.length : Int) := by omega
      have HLT := Lib.hid hlt
      generalize maxP (p.take k) = mm at *
      clear hx hk hlt
      go_wp2_with fail
      go_roundw
      case rel => exact ⟨k + 1, by omega, HLT.out, by go_num, by rw [HT.out], by first | rfl | trivial⟩
      case measure => have := HLT.out; simp [intOf]; omega
    · obtain rfl : k = p.length := by omega
      have HE : Hid (maxP (p.take p.length) = maxP p) := Lib.hid (by rw [List.take_length])
      generalize maxP (p.take p.length) = mm at *
      have hn : ¬ (p.length : Int) < (p.length : Int) := by omega
      clear hlt hk hk1
      go_wp2_with fail
      refine bodyPost_ret (v := .int .i64 mm) (by simp [results, Tryd.results57, go_sem]) rfl ⟨by rw [HE.out], by first | rfl | trivial⟩
theorem minP_iff {p : List Int} (hne : 0 < p.length) (b : Int) : minP p < b ↔ ∃ x ∈ p, x < b := by
  cases p with
  | nil => simp at hne
  | cons a r =>
    clear hne
    show r.foldl min a < b ↔ _
    induction r generalizing a with
    | nil => simp
    | cons y r ih =>
      rw [List.foldl_cons, ih (min a y)]
      simp only [List.mem_cons]
      constructor
      · rintro ⟨x, rfl | hx, h⟩
        · by_cases e : a ≤ y
          · exact ⟨a, .inl rfl, by omega⟩
          · exact ⟨y, .inr (.inl rfl), by omega⟩
        · exact ⟨x, .inr (.inr hx), h⟩
      · rintro ⟨x, rfl | rfl | hx, h⟩
        · exact ⟨min x y, .inl rfl, by omega⟩
        · exact ⟨min a x, .inl rfl, by omega⟩
        · exact ⟨x, .inr hx, h⟩
theorem maxP_iff {p : List Int} (hne : 0 < p.length) (b : Int) : b < maxP p ↔ ∃ x ∈ p, b < x := by
  cases p with
  | nil => simp at hne
  | cons a r =>
    clear hne
    show b < r.foldl max a ↔ _
    induction r generalizing a with
    | nil => simp
    | cons y r ih =>
      rw [List.foldl_cons, ih (max a y)]
      simp only [List.mem_cons]
      constructor
      · rintro ⟨x, rfl | hx, h⟩
        · by_cases e : a ≤ y
          · exact ⟨y, .inr (.inl rfl), by omega⟩
          · exact ⟨a, .inl rfl, by omega⟩
        · exact ⟨x, .inr (.inr hx), h⟩
      · rintro ⟨x, rfl | rfl | hx, h⟩
        · exact ⟨max x y, .inl rfl, by omega⟩
        · exact ⟨max a x, .inl rfl, by omega⟩
        · exact ⟨x, .inr hx, h⟩
/-- What each of the three looks asks of a path. -/
def filledB (p : Pth) : Bool := decide (p ≠ [] ∧ ∀ x ∈ p, 0 ≤ x ∧ x ≤ 255)
def shortB (p : Pth) : Bool := decide (p.length ≤ 8)
def simpleB (p : Pth) : Bool := decide p.Nodup
/-- What a look answers: nothing, or an error. -/
def LookP (ok : Bool) (w : World) (d : Nat) (code : Int) (e : Ending) (w' : World) : Prop := Below w.heap.size w w' ∧ ((ok = true ∧ e = .returned .nilIface) ∨ (ok = false ∧ ∃ v, e = .returned v ∧ ErrN w.heap.size w' d code v))
theorem LookP.good {ok : Bool} {w w' : World} {d : Nat} {code : Int} (h : ok = true) (hb : Below w.heap.size w w') : LookP ok w d code (.returned .nilIface) w' := ⟨hb, .inl ⟨h, rfl⟩⟩
theorem LookP.bad {ok : Bool} {w w' : World} {d : Nat} {code : Int} {v : Value} (h : ok = false) (hb : Below w.heap.size w w') (he : ErrN w.heap.size w' d code v) : LookP ok w d code (.returned v) w' := ⟨hb, .inr ⟨h, v, rfl, he⟩⟩
set_option maxRecDepth 100000 in
set_option maxHeartbeats 2000000 in
theorem short_any {w : World} {v : Value} {p : List Int} (h : SIs w v p) : Calls Tryd.prog 50 #[v] w (LookP (shortB p) w 3 7) := by
  obtain ⟨A, cap, rfl, h1, h2⟩ := h.form
  unfold maxLen at h2
  clear h
  by_cases hs : p.length ≤ 8
  · have HB : Hid (shortB p = true) := Lib.hid (by unfold shortB; exact decide_eq_true hs)
    have hd : ¬ (8 : Int) < (p.length : Int) := by omega
    clear hs
    go_enter Tryd.func50, Tryd.ntmps50
    go_wp2_with fail
    go_ret
    exact LookP.good HB.out (Below.refl _ _)
  · have HB : Hid (shortB p = false) := Lib.hid (by unfold shortB; exact decide_eq_false hs)
    have hd : (8 : Int) < (p.length : Int) := by omega
    have HT := Lib.hid (toolong_any w w.heap.size (Nat.le_refl _) (p.length : Int))
    clear hs
    go_enter Tryd.func50, Tryd.ntmps50
    go_wp2_with fail
    refine (HT.out).mono ?_
    rintro e w1 ⟨v, rfl, h1, h2⟩
    have H1 := Lib.hid h1
    have H2 := Lib.hid h2
    clear h1 h2
    go_wp2_with fail
    refine bodyPost_ret (v := v) (by simp [results, Tryd.results50, go_sem]) rfl ?_
    obtain ⟨t, u, c, q1, q2, q3, q4⟩ := H1.out
    exact LookP.bad HB.out H2.out ⟨t, u, c, q1, q2, by omega, q4⟩
set_option maxRecDepth 100000 in
set_option maxHeartbeats 2000000 in
theorem filled_any {w : World} {v : Value} {p : List Int} (h : SIs w v p) (hl : p.length ≤ 1000) : Calls Tryd.prog 48 #[v] w (LookP (filledB p) w 3 2) := by
  have HMN := Lib.hid (fun hne => min_any h hl hne)
  have HMX := Lib.hid (fun hne => max_any h hl hne)
  obtain ⟨A, cap, rfl, h1, h2⟩ := h.form
  unfold maxLen at h2
  have hlI : (p.length : Int) ≤ 1000 := by omega
  have HN := Lib.hid (new_num 2 (by decide) w)
  have HER := Lib.hid (ErrN.num w.heap.size w (n := 2) (by decide))
  have HE3 : Hid (ErrN w.heap.size w 3 2 (.iface 65 (.agg #[.int .i64 2]))) := Lib.hid (by
    obtain ⟨t, u, c, q1, q2, q3, q4⟩ := HER.out
    exact ⟨t, u, c, q1, q2, by omega, q4⟩)
  clear h
  by_cases h0 : 0 < p.length
  · have hne : p ≠ [] := fun e => by subst e; simp at h0
    have hl0 : ((p.length : Int) == 0) = false := by rw [beq_eq_false_iff_ne]; omega
    have hmn := HMN.out h0
    have hmx := HMX.out h0
    have imn := minP_iff h0 0
    have imx := maxP_iff h0 255
    generalize minP p = a at *
    generalize maxP p = b at *
    have HMN2 := Lib.hid hmn
    have HMX2 := Lib.hid hmx
    by_cases ha : a < 0
    · have HB : Hid (filledB p = false) := Lib.hid (by
        unfold filledB
        refine decide_eq_false (fun e => ?_)
        obtain ⟨x, hx, hlt⟩ := imn.1 ha
        have := (e.2 x hx).1
        omega)
      clear hmn hmx imn imx hne h0 HMN HMX
      go_enter Tryd.func48, Tryd.ntmps48
      go_wp2_with fail
      refine (HMN2.out).mono ?_
      rintro e w1 ⟨rfl, rfl⟩
      go_wp2_with fail
      refine (HN.out).mono ?_
      rintro e w2 ⟨rfl, rfl⟩
      go_wp2_with fail
      refine bodyPost_ret (v := .iface 65 (.agg #[.int .i64 2])) (by simp [results, Tryd.results48, go_sem]) rfl (LookP.bad HB.out (Below.refl _ _) HE3.out)
    · by_cases hb : 255 < b
      · have HB : Hid (filledB p = false) := Lib.hid (by
          unfold filledB
          refine decide_eq_false (fun e => ?_)
          obtain ⟨x, hx, hlt⟩ := imx.1 hb
          have := (e.2 x hx).2
          omega)
        clear hmn hmx imn imx hne h0 HMN HMX
        go_enter Tryd.func48, Tryd.ntmps48
        go_wp2_with fail
        refine (HMN2.out).mono ?_
        rintro e w1 ⟨rfl, rfl⟩
        go_wp2_with fail
        refine (HMX2.out).mono ?_
        rintro e w2 ⟨rfl, rfl⟩
        go_wp2_with fail
        refine (HN.out).mono ?_
        rintro e w2 ⟨rfl, rfl⟩
        go_wp2_with fail
        refine bodyPost_ret (v := .iface 65 (.agg #[.int .i64 2])) (by simp [results, Tryd.results48, go_sem]) rfl (LookP.bad HB.out (Below.refl _ _) HE3.out)
      · have HB : Hid (filledB p = true) := Lib.hid (by
          unfold filledB
          refine decide_eq_true ⟨hne, fun x hx => ⟨?_, ?_⟩⟩
          · refine Int.not_lt.1 (fun e => ha (imn.2 ⟨x, hx, e⟩))
          · refine Int.not_lt.1 (fun e => hb (imx.2 ⟨x, hx, e⟩)))
        clear hmn hmx imn imx hne h0 HMN HMX
        go_enter Tryd.func48, Tryd.ntmps48
        go_wp2_with fail
        refine (HMN2.out).mono ?_
        rintro e w1 ⟨rfl, rfl⟩
        go_wp2_with fail
        refine (HMX2.out).mono ?_
        rintro e w2 ⟨rfl, rfl⟩
        go_wp2_with fail
        go_ret
        exact LookP.good HB.out (Below.refl _ _)
  · obtain rfl : p = [] := List.eq_nil_of_length_eq_zero (by omega)
    have HB : Hid (filledB [] = false) := Lib.hid (by unfold filledB; exact decide_eq_false (fun e => e.1 rfl))
    clear h0 HMN HMX hl hlI
    go_enter Tryd.func48, Tryd.ntmps48
    go_wp2_with fail
    refine (HN.out).mono ?_
    rintro e w2 ⟨rfl, rfl⟩
    go_wp2_with fail
    refine bodyPost_ret (v := .iface 65 (.agg #[.int .i64 2])) (by simp [results, Tryd.results48, go_sem]) rfl (LookP.bad HB.out (Below.refl _ _) HE3.out)
theorem SIs.take {w : World} {A : Option Addr} {n cap : Nat} {l : List Int} (h : SIs w (.slice A n cap) l) {k : Nat} (hk : k ≤ l.length) : SIs w (.slice A k cap) (l.take k) := by
  obtain ⟨_, _, e', h1, h2, hc⟩ := h
  injection e' with e1 _ e3
  subst e1 e3
  refine ⟨A, cap, by rw [List.length_take, Nat.min_eq_left hk], by rw [List.length_take]; omega, h2, fun i x hx => ?_⟩
  rw [List.getElem?_take] at hx
  split at hx
  · exact hc i x hx
  · cases hx
theorem nodup_take {p : List Int} {k : Nat} {x : Int} (h : (p.take k).Nodup) (hx : p[k]? = some x) (hn : x ∉ p.take k) : (p.take (k + 1)).Nodup := by
  rw [List.take_add_one, hx, List.nodup_append]
  refine ⟨h, by simp, fun a ha b hb e => ?_⟩
  simp at hb
  subst hb e
  exact hn ha
set_option maxRecDepth 100000 in
set_option maxHeartbeats 2000000 in
theorem simple_any {w : World} {v : Value} {p : List Int} (h : SIs w v p) (hl : p.length ≤ 1000) : Calls Tryd.prog 51 #[v] w (LookP (simpleB p) w 3 42) := by
  obtain ⟨A, cap, rfl, h1, h2⟩ := h.form
  unfold maxLen at h2
  have hlI : (p.length : Int) ≤ 1000 := by omega
  have HH := Lib.hid h
  have HN := Lib.hid (new_num 42 (by decide) w)
  have HER := Lib.hid (ErrN.num w.heap.size w (n := 42) (by decide))
  have HE3 : Hid (ErrN w.heap.size w 3 42 (.iface 65 (.agg #[.int .i64 42]))) := Lib.hid (by
    obtain ⟨t, u, c, q1, q2, q3, q4⟩ := HER.out
    exact ⟨t, u, c, q1, q2, by omega, q4⟩)
  clear h
  go_enter Tryd.func51, Tryd.ntmps51
  go_wp2_with fail
  go_loopw [7] (fun iv wr => ∃ k : Nat, k ≤ p.length ∧ iv = .int .i64 k ∧ wr = w ∧ (p.take k).Nodup) (fun iv _ => p.length - (intOf iv).toNat)
  case atStart => exact ⟨0, Nat.zero_le _, rfl, rfl, by simp⟩
  case round =>
    obtain ⟨k, hk, rfl, rfl, hno⟩ := hrel
    have HNO := Lib.hid hno
    by_cases hlt : k < p.length
    · have hx : p[k]? = some p[k] := List.getElem?_eq_getElem hlt
      generalize p[k] = y at hx
      obtain ⟨a, rfl, _, kc⟩ := HH.out.at hx
      have hi : (k : Int) < (p.length : Int) := by omega
      have hkc : k ≤ cap := by omega
      have HLT := Lib.hid hlt
      have HC := Lib.hid (wcontains_any (x := y) (HH.out.take hk) (by rw [List.length_take]; omega))
      by_cases hin : y ∈ p.take k
      · have hd : decide (y ∈ p.take k) = true := decide_eq_true hin
        rw [hd] at HC
        have HB : Hid (simpleB p = false) := Lib.hid (by
          unfold simpleB
          refine decide_eq_false (fun e => ?_)
          rw [← List.take_append_drop k p, List.nodup_append] at e
          refine e.2.2 y hin y ?_ rfl
          have hd : p.drop k = y :: p.drop (k + 1) := by
            rw [List.drop_eq_getElem_cons hlt]
            congr 1
            exact (List.getElem?_eq_some_iff.1 hx).2
          rw [hd]
          exact List.mem_cons_self ..)
        clear hx hno hk hlt hin hd
        go_wp2_with fail
        refine (HC.out).mono ?_
        rintro e w1 ⟨rfl, rfl⟩
        go_wp2_with fail
        refine (HN.out).mono ?_
        rintro e w2 ⟨rfl, rfl⟩
        go_wp2_with fail
        refine bodyPost_ret (v := .iface 65 (.agg #[.int .i64 42])) (by simp [results, Tryd.results51, go_sem]) rfl (LookP.bad HB.out (Below.refl _ _) HE3.out)
      · have hd : decide (y ∈ p.take k) = false := decide_eq_false hin
        rw [hd] at HC
        have HT := Lib.hid (nodup_take hno hx hin)
        clear hx hno hk hlt hin hd
        go_wp2_with fail
        refine (HC.out).mono ?_
        rintro e w1 ⟨rfl, rfl⟩
        go_wp2_with fail
        go_roundw
        case rel => exact ⟨k + 1, HLT.out, by go_num, by first | rfl | trivial, HT.out⟩
        case measure => have := HLT.out; simp [intOf]; omega
    · obtain rfl : k = p.length := by omega
      have HB : Hid (simpleB p = true) := Lib.hid (by unfold simpleB; have := hno; rw [List.take_length] at this; exact decide_eq_true this)
      have hn : ¬ (p.length : Int) < (p.length : Int) := by omega
      clear hlt hk hno
      go_wp2_with fail
      go_ret
      exact LookP.good HB.out (Below.refl _ _)
end Go.Proofs.YtpploljennbpdaaDoor
