/- The reference functions Chain, Code, Place and Limit, at every slice of links. -/
import Derived.Test.YtakdhhapckcnaaaDoorLnkB
import Derived.Deep.Cut
set_option linter.unusedSimpArgs false
set_option linter.unusedVariables false
namespace Go.Proofs.YtakdhhapckcnaaaDoor
open Go.RowKit

theorem rchain_pre {ls : List L6} {k : Nat} (hpre : ∀ i x, i < k → ls[i]? = some x → x.kind ≠ 0) (hk : k ≤ ls.length) : rchain ls = match rchain (ls.drop k) with
    | [] => []
    | y :: c => ls.take k ++ y :: c := by
  induction k generalizing ls with
  | zero => cases h : rchain ls <;> simp [h]
  | succ k ih =>
    cases ls with
    | nil => simp at hk
    | cons x r =>
      have h0 : x.kind ≠ 0 := hpre 0 x (by omega) rfl
      have := ih (ls := r) (fun i y hi hy => hpre (i + 1) y (by omega) (by simpa using hy)) (by simpa using hk)
      rw [rchain, if_neg h0, this]
      simp only [List.drop_succ_cons]
      cases hc : rchain (r.drop k) with
      | nil => rfl
      | cons y c =>
        cases hr : r.take k ++ y :: c with
        | nil => simp at hr
        | cons z d => simp [hr]
theorem rchain_none {ls : List L6} (h : ∀ i x, i < ls.length → ls[i]? = some x → x.kind ≠ 0) : rchain ls = [] := by
  rw [rchain_pre h (Nat.le_refl _), List.drop_length]; rfl
theorem rchain_zero {ls : List L6} {k : Nat} {x : L6} (hpre : ∀ i x, i < k → ls[i]? = some x → x.kind ≠ 0) (hx : ls[k]? = some x) (h0 : x.kind = 0) (h1 : x.e = 0) : rchain ls = [] := by
  have hlt : k < ls.length := (List.getElem?_eq_some_iff.1 hx).1
  rw [rchain_pre hpre (by omega), drop_at hx, rchain, if_pos h0, if_pos h1]
theorem rchain_num {ls : List L6} {k : Nat} {x : L6} (hpre : ∀ i x, i < k → ls[i]? = some x → x.kind ≠ 0) (hx : ls[k]? = some x) (h0 : x.kind = 0) (h1 : x.e ≠ 0) : rchain ls = ls.take (k + 1) := by
  have hlt : k < ls.length := (List.getElem?_eq_some_iff.1 hx).1
  rw [rchain_pre hpre (by omega), drop_at hx, rchain, if_pos h0, if_neg h1]
  rw [List.take_succ_eq_append_getElem hlt, (List.getElem?_eq_some_iff.1 hx).2]
theorem pre_succ {ls : List L6} {k : Nat} {x : L6} (hpre : ∀ i x, i < k → ls[i]? = some x → x.kind ≠ 0) (hx : ls[k]? = some x) (h0 : x.kind ≠ 0) : ∀ i x, i < k + 1 → ls[i]? = some x → x.kind ≠ 0 := by
  intro i y hi hy
  by_cases hik : i < k
  · exact hpre i y hik hy
  · obtain rfl : i = k := by omega
    rw [hx] at hy; cases hy; exact h0

theorem sl_take {w : World} {a : Addr} {cap : Nat} {ls : List L6} {n : Nat} (hn : n ≤ ls.length) (hc : n ≤ cap) (hcm : cap ≤ maxLen) (hal : a.block < w.heap.size) (h6 : ∀ i x, ls[i]? = some x → At6 w (a.add (i * 6)) x) : SlIs w (.slice (some a) n cap) (ls.take n) := by
  have hl : (ls.take n).length = n := by rw [List.length_take]; omega
  refine .inr ⟨a, cap, by rw [hl], by rw [hl]; exact hc, hcm, hal, fun i x hx => h6 i x ?_⟩
  rw [List.getElem?_take] at hx
  split at hx
  · exact hx
  · cases hx
set_option maxRecDepth 100000 in
set_option maxHeartbeats 1000000 in
theorem chain_some {w : World} {a : Addr} {cap : Nat} {ls : List L6} (hlc : ls.length ≤ cap) (hcm : cap ≤ maxLen) (hal : a.block < w.heap.size) (h6 : ∀ i x, ls[i]? = some x → At6 w (a.add (i * 6)) x) :
    Calls Tryd.prog 15 #[.slice (some a) ls.length cap] w fun e w' => ∃ v, e = .returned v ∧ SlIs w' v (rchain ls) ∧ Below w.heap.size w w' := by
  have hcm' := hcm
  unfold maxLen at hcm
  have hlm : ls.length ≤ 9223372036854775807 := by omega
  have H6 := Lib.hid h6
  go_enter Tryd.func15, Tryd.ntmps15
  go_wp2_with fail
  go_loopw [7] (fun i wr => ∃ k : Nat, k ≤ ls.length ∧ i = .int .i64 k ∧ (∀ i x, i < k → ls[i]? = some x → x.kind ≠ 0) ∧ Below w.heap.size w wr) (fun i _ => ls.length - (intOf i).toNat)
  case atStart => exact ⟨0, by omega, rfl, fun i x hi _ => by omega, Below.refl _ _⟩
  case round =>
    obtain ⟨k, hk, rfl, hpre, hb⟩ := hrel
    have HP := Lib.hid hpre
    by_cases hlt : k < ls.length
    · have hx : ls[k]? = some ls[k] := List.getElem?_eq_getElem hlt
      generalize ls[k] = x at hx
      have hpb : (a.add (k * 6)).block < w.heap.size := by rw [add_block]; exact hal
      obtain ⟨c0, c1, c2, c3, c4, c5⟩ := (h6 k x hx).below hb hpb
      have HX := Lib.hid hx
      have HB := Lib.hid hb
      clear hx hb h6 hpb hpre
      by_cases h0 : x.kind = 0
      · have hb0 : (x.kind == 0) = true := beq_iff_eq.2 h0
        have H0 := Lib.hid h0
        clear h0
        by_cases h1 : x.e = 0
        · have hb1 : (x.e == 0) = true := beq_iff_eq.2 h1
          have H1 := Lib.hid h1
          clear h1
          go_wp2
          go_ret
          exact ⟨_, rfl, .inl ⟨rfl, rchain_zero HP.out HX.out H0.out H1.out⟩, HB.out.alloc HB.out.size _⟩
        · have hb1 : (x.e == 0) = false := beq_eq_false_iff_ne.2 h1
          have H1 := Lib.hid h1
          clear h1
          have hk1 : k + 1 ≤ cap := by omega
          go_wp2
          go_ret
          have hr := rchain_num HP.out HX.out H0.out H1.out
          refine ⟨_, rfl, ?_, HB.out.alloc HB.out.size _⟩
          rw [hr]
          exact (sl_take (by omega) (by omega) hcm' hal H6.out).below (HB.out.alloc HB.out.size _) (Nat.le_refl _)
      · have hb0 : (x.kind == 0) = false := beq_eq_false_iff_ne.2 h0
        have H0 := Lib.hid (pre_succ HP.out HX.out h0)
        clear h0
        go_wp2
        go_roundw
        case rel => exact ⟨k + 1, by omega, by go_num, H0.out, HB.out.alloc HB.out.size _⟩
        case measure => simp [intOf]; omega
    · obtain rfl : k = ls.length := by omega
      have HB := Lib.hid hb
      clear hb h6 hpre
      go_wp2
      go_ret
      exact ⟨_, rfl, .inl ⟨rfl, rchain_none HP.out⟩, HB.out⟩
theorem chain_any {w : World} {v : Value} {ls : List L6} (h : SlIs w v ls) : Calls Tryd.prog 15 #[v] w fun e w' => ∃ v, e = .returned v ∧ SlIs w' v (rchain ls) ∧ Below w.heap.size w w' := by
  rcases h with ⟨rfl, rfl⟩ | ⟨a, cap, rfl, h1, h2, h3, h4⟩
  · go_enter Tryd.func15, Tryd.ntmps15
    go_wp2
    refine wp_loop_rounds 1 ?_
    rw [rounds_succ]
    go_wp2
    go_ret
    exact ⟨_, rfl, .inl ⟨rfl, rfl⟩, Below.refl _ _⟩
  · exact chain_some h1 h2 h3 h4

/-! the reference's questions to a chain -/
def lastE (c : List L6) : Int := match c.getLast? with
  | none => 0
  | some x => x.e
def placeL : List L6 → Int
  | [] => -1
  | x :: r => if x.kind = 1 then x.place else placeL r
def limitL : List L6 → Int × Int × Bool
  | [] => (0, 0, false)
  | x :: r => if x.kind = 3 then (x.l, x.g, true) else limitL r
def trailL (c : List L6) : List ByteArray := (c.filter fun x => decide (x.kind = 2)).map (·.name)

set_option maxRecDepth 100000 in
set_option maxHeartbeats 1000000 in
theorem rcode_any {w : World} {v : Value} {c : List L6} (h : SlIs w v c) : Calls Tryd.prog 19 #[v] w fun e w' => e = .returned (.int .i64 (lastE c)) ∧ w = w' := by
  rcases h with ⟨rfl, rfl⟩ | ⟨a, cap, rfl, h1, h2, h3, h4⟩
  · go_enter Tryd.func19, Tryd.ntmps19
    go_wp2
    go_ret
    exact ⟨rfl, rfl⟩
  · unfold maxLen at h2
    have hlm : c.length ≤ 9223372036854775807 := by omega
    by_cases h0 : c = []
    · subst h0
      clear h4 h1
      simp only [List.length_nil] at *
      go_enter Tryd.func19, Tryd.ntmps19
      go_wp2
      go_ret
      exact ⟨rfl, rfl⟩
    · have hpos : 0 < c.length := List.length_pos_iff.2 h0
      obtain ⟨n, hn⟩ : ∃ n, c.length = n + 1 := ⟨c.length - 1, by omega⟩
      have hx : c[n]? = some c[n] := List.getElem?_eq_getElem (by omega)
      generalize hxx : c[n] = x at hx
      obtain ⟨c0, c1, _, _, _, _⟩ := h4 n x hx
      have HL : Hid (lastE c = x.e) := by
        have : c.getLast? = some x := by rw [List.getLast?_eq_getElem?, hn]; simpa using hx
        show lastE c = x.e
        simp only [lastE, this]
      have hne : ((n : Int) + 1 == 0) = false := beq_eq_false_iff_ne.2 (by omega)
      rw [hn] at h1 hlm ⊢
      clear h4 hx hxx hpos hn h0 c0
      go_enter Tryd.func19, Tryd.ntmps19
      go_wp2
      go_ret
      exact ⟨by rw [HL.out]; rfl, rfl⟩
theorem placeL_skip {c : List L6} {k : Nat} (hpre : ∀ i x, i < k → c[i]? = some x → x.kind ≠ 1) : placeL c = placeL (c.drop k) := by
  induction k generalizing c with
  | zero => rfl
  | succ k ih =>
    cases c with
    | nil => rfl
    | cons x r =>
      rw [placeL, if_neg (hpre 0 x (by omega) rfl)]
      exact ih (fun i y hi hy => hpre (i + 1) y (by omega) (by simpa using hy))
theorem limitL_skip {c : List L6} {k : Nat} (hpre : ∀ i x, i < k → c[i]? = some x → x.kind ≠ 3) : limitL c = limitL (c.drop k) := by
  induction k generalizing c with
  | zero => rfl
  | succ k ih =>
    cases c with
    | nil => rfl
    | cons x r =>
      rw [limitL, if_neg (hpre 0 x (by omega) rfl)]
      exact ih (fun i y hi hy => hpre (i + 1) y (by omega) (by simpa using hy))
theorem pre_succ' {q : Int} {ls : List L6} {k : Nat} {x : L6} (hpre : ∀ i x, i < k → ls[i]? = some x → x.kind ≠ q) (hx : ls[k]? = some x) (h0 : x.kind ≠ q) : ∀ i x, i < k + 1 → ls[i]? = some x → x.kind ≠ q := by
  intro i y hi hy
  by_cases hik : i < k
  · exact hpre i y hik hy
  · obtain rfl : i = k := by omega
    rw [hx] at hy; cases hy; exact h0

set_option maxRecDepth 100000 in
set_option maxHeartbeats 1000000 in
theorem rplace_any {w : World} {v : Value} {ls : List L6} (h : SlIs w v ls) : Calls Tryd.prog 21 #[v] w fun e w' => e = .returned (.int .i64 (placeL ls)) ∧ Below w.heap.size w w' := by
  rcases h with ⟨rfl, rfl⟩ | ⟨a, cap, rfl, hlc, hcm, hal, h6⟩
  · go_enter Tryd.func21, Tryd.ntmps21
    go_wp2
    refine wp_loop_rounds 1 ?_
    rw [rounds_succ]
    go_wp2
    go_ret
    exact ⟨rfl, Below.refl _ _⟩
  · unfold maxLen at hcm
    have hlm : ls.length ≤ 9223372036854775807 := by omega
    go_enter Tryd.func21, Tryd.ntmps21
    go_wp2_with fail
    go_loopw [7] (fun i wr => ∃ k : Nat, k ≤ ls.length ∧ i = .int .i64 k ∧ (∀ i x, i < k → ls[i]? = some x → x.kind ≠ 1) ∧ Below w.heap.size w wr) (fun i _ => ls.length - (intOf i).toNat)
    case atStart => exact ⟨0, by omega, rfl, fun i x hi _ => by omega, Below.refl _ _⟩
    case round =>
      obtain ⟨k, hk, rfl, hpre, hb⟩ := hrel
      have HP := Lib.hid hpre
      by_cases hlt : k < ls.length
      · have hx : ls[k]? = some ls[k] := List.getElem?_eq_getElem hlt
        generalize ls[k] = x at hx
        have hpb : (a.add (k * 6)).block < w.heap.size := by rw [add_block]; exact hal
        obtain ⟨c0, c1, c2, c3, c4, c5⟩ := (h6 k x hx).below hb hpb
        have HX := Lib.hid hx
        have HB := Lib.hid hb
        clear hx hb h6 hpb hpre
        by_cases h0 : x.kind = 1
        · have hb0 : (x.kind == 1) = true := beq_iff_eq.2 h0
          have H0 := Lib.hid h0
          clear h0
          go_wp2
          go_ret
          exact ⟨by rw [placeL_skip HP.out, drop_at HX.out, placeL, if_pos H0.out]; rfl, HB.out.alloc HB.out.size _⟩
        · have hb0 : (x.kind == 1) = false := beq_eq_false_iff_ne.2 h0
          have H0 := Lib.hid (pre_succ' HP.out HX.out h0)
          clear h0
          go_wp2
          go_roundw
          case rel => exact ⟨k + 1, by omega, by go_num, H0.out, HB.out.alloc HB.out.size _⟩
          case measure => simp [intOf]; omega
      · obtain rfl : k = ls.length := by omega
        have HB := Lib.hid hb
        clear hb h6 hpre
        go_wp2
        go_ret
        exact ⟨by rw [placeL_skip HP.out, List.drop_length]; rfl, HB.out⟩
set_option maxRecDepth 100000 in
set_option maxHeartbeats 1000000 in
theorem rlimit_any {w : World} {v : Value} {ls : List L6} (h : SlIs w v ls) : Calls Tryd.prog 17 #[v] w fun e w' => e = .returned (.tuple #[.int .i64 (limitL ls).1, .int .i64 (limitL ls).2.1, .bool (limitL ls).2.2]) ∧ Below w.heap.size w w' := by
  rcases h with ⟨rfl, rfl⟩ | ⟨a, cap, rfl, hlc, hcm, hal, h6⟩
  · go_enter Tryd.func17, Tryd.ntmps17
    go_wp2
    refine wp_loop_rounds 1 ?_
    rw [rounds_succ]
    go_wp2
    go_ret3
    exact ⟨rfl, Below.refl _ _⟩
  · unfold maxLen at hcm
    have hlm : ls.length ≤ 9223372036854775807 := by omega
    go_enter Tryd.func17, Tryd.ntmps17
    go_wp2_with fail
    go_loopw [9] (fun i wr => ∃ k : Nat, k ≤ ls.length ∧ i = .int .i64 k ∧ (∀ i x, i < k → ls[i]? = some x → x.kind ≠ 3) ∧ Below w.heap.size w wr) (fun i _ => ls.length - (intOf i).toNat)
    case atStart => exact ⟨0, by omega, rfl, fun i x hi _ => by omega, Below.refl _ _⟩
    case round =>
      obtain ⟨k, hk, rfl, hpre, hb⟩ := hrel
      have HP := Lib.hid hpre
      by_cases hlt : k < ls.length
      · have hx : ls[k]? = some ls[k] := List.getElem?_eq_getElem hlt
        generalize ls[k] = x at hx
        have hpb : (a.add (k * 6)).block < w.heap.size := by rw [add_block]; exact hal
        obtain ⟨c0, c1, c2, c3, c4, c5⟩ := (h6 k x hx).below hb hpb
        have HX := Lib.hid hx
        have HB := Lib.hid hb
        clear hx hb h6 hpb hpre
        by_cases h0 : x.kind = 3
        · have hb0 : (x.kind == 3) = true := beq_iff_eq.2 h0
          have H0 := Lib.hid h0
          clear h0
          go_wp2
          go_quiet (fail)
          go_wp2
          go_ret3
          exact ⟨by rw [limitL_skip HP.out, drop_at HX.out, limitL, if_pos H0.out]; rfl, below_drewN (HB.out.alloc HB.out.size _) _⟩
        · have hb0 : (x.kind == 3) = false := beq_eq_false_iff_ne.2 h0
          have H0 := Lib.hid (pre_succ' HP.out HX.out h0)
          clear h0
          go_wp2
          go_roundw
          case rel => exact ⟨k + 1, by omega, by go_num, H0.out, HB.out.alloc HB.out.size _⟩
          case measure => simp [intOf]; omega
      · obtain rfl : k = ls.length := by omega
        have HB := Lib.hid hb
        clear hb h6 hpre
        go_wp2
        go_ret3
        exact ⟨by rw [limitL_skip HP.out, List.drop_length]; rfl, HB.out⟩
end Go.Proofs.YtakdhhapckcnaaaDoor
