/- Users in memory: sites are slices of numbers, wherever they lie. order: First and May. -/
import Derived.Test.YtlbhpeeggbfcpaaZOrdA
import Derived.Test.YtlbhpeeggbfcpaaZWib
set_option linter.unusedSimpArgs false
set_option linter.unusedVariables false
set_option linter.unnecessarySimpa false
namespace Go.Proofs.Ytlbhpeeggbfcpaa
open Go.RowKit Go.Shelf

/-- A slice of numbers, wherever it lies. -/
def SIs (w : World) (v : Value) (l : List Int) : Prop := ∃ A cap, v = .slice A l.length cap ∧ l.length ≤ cap ∧ cap ≤ maxLen ∧ ∀ (i : Nat) (x : Int), l[i]? = some x → ∃ a : Addr, A = some a ∧ a.block < w.heap.size ∧ w.cell? (a.add i) = some (.int .i64 x)
theorem SIs.below {w w' : World} {v : Value} {l : List Int} (h : SIs w v l) (hb : Below w.heap.size w w') : SIs w' v l := by
  obtain ⟨A, cap, e, h1, h2, h3⟩ := h
  refine ⟨A, cap, e, h1, h2, fun i x hx => ?_⟩
  obtain ⟨a, q1, q2, q3⟩ := h3 i x hx
  exact ⟨a, q1, Nat.lt_of_lt_of_le q2 hb.size, (hb.cell (p := a.add i) (by rw [add_block]; exact q2)).trans q3⟩
theorem heap_lt' {w : World} {g j : Nat} {u : Value} (h : w.cell? ⟨g, j, none⟩ = some u) : g < w.heap.size := by
  rcases Nat.lt_or_ge g w.heap.size with h1 | h1
  · exact h1
  · unfold World.cell? at h
    rw [show w.heap[(⟨g, j, none⟩ : Addr).block]? = none from Array.getElem?_eq_none h1] at h
    cases h
theorem RowIs.sis {w : World} {v : Value} {l : List Int} (h : RowIs w 1 v l.length (ints l)) : SIs w v l := by
  obtain ⟨A, cap, rfl, h1, h2, h3, h4, h5⟩ := h.form
  refine ⟨A, cap, rfl, h1, h2, fun i x hx => ?_⟩
  obtain ⟨g, e, hc⟩ := h5 i (.int .i64 x) (by unfold ints; rw [List.getElem?_map, hx]; rfl)
  obtain ⟨g2, e2, ho⟩ := h4 _ e
  refine ⟨_, e, ?_, by rw [add0]; exact hc⟩
  exact heap_lt' hc
/-- Users: a number and a slice of sites each. -/
def UIs (w : World) (v : Value) (T : Gr) : Prop := ∃ A cap, v = .slice A T.length cap ∧ T.length ≤ cap ∧ cap ≤ maxLen ∧ ∀ (i : Nat) (u : Int × List Int), T[i]? = some u → ∃ (a : Addr) (s : Value), A = some a ∧ a.block < w.heap.size ∧ w.cell? (a.add (i * 2)) = some (.int .i64 u.1) ∧ w.cell? ((a.add (i * 2)).add 1) = some s ∧ SIs w s u.2
theorem UIs.below {w w' : World} {v : Value} {T : Gr} (h : UIs w v T) (hb : Below w.heap.size w w') : UIs w' v T := by
  obtain ⟨A, cap, e, h1, h2, h3⟩ := h
  refine ⟨A, cap, e, h1, h2, fun i x hx => ?_⟩
  obtain ⟨a, s, q1, q2, q3, q4, q5⟩ := h3 i x hx
  exact ⟨a, s, q1, Nat.lt_of_lt_of_le q2 hb.size, (hb.cell (p := a.add (i * 2)) (by rw [add_block]; exact q2)).trans q3, (hb.cell (p := (a.add (i * 2)).add 1) (by rw [add_block, add_block]; exact q2)).trans q4, q5.below hb⟩
set_option maxRecDepth 100000 in
set_option maxHeartbeats 2000000 in
theorem sindex_any {w : World} {v : Value} {l : List Int} {x : Int} (h : SIs w v l) (hl : l.length ≤ 1000000000) : Calls Try.prog 38 #[v, .int .i64 x] w fun e w' => ∃ n : Int, e = .returned (.int .i64 n) ∧ (0 ≤ n ↔ x ∈ l) ∧ -1 ≤ n ∧ w' = w := by
  obtain ⟨A, cap, rfl, h1, h2, h3⟩ := id h
  have HC := Lib.hid h3
  clear h3
  unfold maxLen at h2
  go_enter Try.func38, Try.ntmps38
  go_wp2_with fail
  have HH := Lib.hid h
  have hl' : (l.length : Int) ≤ 1000000000 := by omega
  go_loopw [8] (fun iv wr => ∃ k : Nat, k ≤ l.length ∧ iv = .int .i64 k ∧ wr = w ∧ x ∉ l.take k) (fun iv _ => l.length - (intOf iv).toNat)
  case atStart => exact ⟨0, Nat.zero_le _, rfl, rfl, by simp⟩
  case round =>
    obtain ⟨k, hk, rfl, rfl, hno⟩ := hrel
    have HNO := Lib.hid hno
    by_cases hlt : k < l.length
    · have hx : l[k]? = some l[k] := List.getElem?_eq_getElem hlt
      have HMEM := Lib.hid (List.getElem_mem hlt)
      have HTK : Hid (l.take (k + 1) = l.take k ++ [l[k]]) := Lib.hid (List.take_succ_eq_append_getElem hlt)
      generalize l[k] = y at hx HMEM HTK
      obtain ⟨a, rfl, _, kc⟩ := HC.out k y hx
      have hi : (k : Int) < (l.length : Int) := by omega
      have HLT := Lib.hid hlt
      by_cases he : y = x
      · have hb : (y == x) = true := by rw [he]; exact beq_self_eq_true x
        have HE := Lib.hid he
        clear hx hno hk he h
        go_wp2_with fail
        go_ret
        exact ⟨_, rfl, ⟨fun _ => by rw [← HE.out]; exact HMEM.out, fun _ => by omega⟩, by omega, rfl⟩
      · have hb : (y == x) = false := by rw [beq_eq_false_iff_ne]; exact he
        have HE := Lib.hid he
        clear hx hno hk he h
        go_wp2_with fail
        go_roundw
        case rel => exact ⟨k + 1, HLT.out, by go_num, by first | rfl | trivial, by rw [HTK.out, List.mem_append, List.mem_singleton]; exact fun h => h.elim HNO.out (fun h => HE.out h.symm)⟩
        case measure => have := HLT.out; simp [intOf]; omega
    · obtain rfl : k = l.length := by omega
      have HN2 : Hid (x ∉ l) := Lib.hid (by have := HNO.out; rwa [List.take_length] at this)
      clear hlt hk hno h
      go_wp2_with fail
      go_ret
      exact ⟨-1, rfl, ⟨fun h => by omega, fun h => absurd h HN2.out⟩, by omega, rfl⟩
set_option maxRecDepth 100000 in
set_option maxHeartbeats 2000000 in
theorem scontains_any {w : World} {v : Value} {l : List Int} {x : Int} (h : SIs w v l) (hl : l.length ≤ 1000000000) : Calls Try.prog 23 #[v, .int .i64 x] w fun e w' => e = .returned (.bool (decide (x ∈ l))) ∧ w' = w := by
  have HI := Lib.hid (sindex_any (x := x) h hl)
  clear h hl
  go_enter Try.func23, Try.ntmps23
  go_wp2_with fail
  refine (HI.out).mono ?_
  rintro e w1 ⟨n, rfl, h1, h2, rfl⟩
  by_cases hn : 0 ≤ n
  · have hb : decide (x ∈ l) = true := decide_eq_true (h1.1 hn)
    have HB := Lib.hid hb
    clear h1 hb
    go_wp2_with fail
    go_ret
    have hb := HB.out
    first | exact hb | (simp [hb]; done) | (simp [hb]; omega)
  · have hb : decide (x ∈ l) = false := decide_eq_false (fun e => hn (h1.2 e))
    have HB := Lib.hid hb
    clear h1 hb
    go_wp2_with fail
    go_ret
    have hb := HB.out
    first | exact hb | (simp [hb]; done) | (simp [hb]; omega)
end Go.Proofs.Ytlbhpeeggbfcpaa

namespace Go.Proofs.Ytlbhpeeggbfcpaa
open Go.RowKit

/-- What First tells of what was found. -/
def firV (o : Option Int) : Int := o.getD 0
def firB (o : Option Int) : Bool := o.isSome
theorem first_take {T : Gr} {k : Nat} {u : Int × List Int} (site : Int) (h : T[k]? = some u) : firstP site (T.take (k + 1)) = stepF site (firstP site (T.take k)) u := by
  rw [List.take_add_one, h]
  exact first_snoc site _ u
set_option maxRecDepth 100000 in
set_option maxHeartbeats 2000000 in
theorem First_any {w : World} {v : Value} {T : Gr} {site : Int} (h : UIs w v T) (hl : T.length ≤ 1000) (hs : ∀ u ∈ T, u.2.length ≤ 1000) : Calls Try.prog 9 #[.int .i64 site, v] w fun e w' => e = .returned (.tuple #[.int .i64 (firV (firstP site T)), .bool (firB (firstP site T))]) ∧ Below w.heap.size w w' := by
  obtain ⟨A, cap, rfl, h1, h2, h3⟩ := id h
  have HU := Lib.hid h
  unfold maxLen at h2
  have hlI : (T.length : Int) ≤ 1000 := by omega
  clear h h3
  go_enter Try.func9, Try.ntmps9
  go_wp2_with fail
  go_loopw [6, 7, 12] (fun fv tv iv wr => ∃ k : Nat, k ≤ T.length ∧ iv = .int .i64 k ∧ fv = .int .i64 (firV (firstP site (T.take k))) ∧ tv = .bool (firB (firstP site (T.take k))) ∧ Below w.heap.size w wr) (fun _ _ iv _ => T.length - (intOf iv).toNat)
  case atStart => exact ⟨0, Nat.zero_le _, rfl, rfl, rfl, Below.refl _ _⟩
  case round =>
    obtain ⟨k, hk, rfl, rfl, rfl, hb⟩ := hrel
    by_cases hlt : k < T.length
    · have hx : T[k]? = some T[k] := List.getElem?_eq_getElem hlt
      have hsl := hs _ (List.getElem_mem hlt)
      generalize T[k] = u at hx hsl
      obtain ⟨A', cap', e', _, _, h3⟩ := HU.out.below hb
      injection e' with e1 _ e3
      subst e1 e3
      obtain ⟨a, sv, rfl, ha, k0, k1, hsv⟩ := h3 k u hx
      obtain ⟨g, ss⟩ := u
      obtain ⟨B, scap, rfl, hs1, hs2, _⟩ := id hsv
      have hi : (k : Int) < (T.length : Int) := by omega
      have k1' : wr.cell? ⟨(a.add (k * 2)).block, (a.add (k * 2)).off + 1, none⟩ = some (.slice B ss.length scap) := k1
      have hat := alloc_at wr (.cells #[.int .i64 g, .slice B ss.length scap] 61)
      have c0 := cell_of hat 0
      have c1 := cell_of hat 1
      have hbn := below_new (w := wr) (.cells #[.int .i64 g, .slice B ss.length scap] 61)
      have HCC := Lib.hid (scontains_any (x := site) (hsv.below hbn) (Nat.le_trans hsl (by omega)))
      have hstep := first_take site hx
      have HLT := Lib.hid hlt
      have HB : Hid (Below w.heap.size w (wr.alloc (.cells #[.int .i64 g, .slice B ss.length scap] 61))) := Lib.hid (hb.trans (hbn.mono hb.size))
      have HC0 : Hid ((wr.alloc (.cells #[.int .i64 g, .slice B ss.length scap] 61)).cell? ⟨wr.heap.size, 0, none⟩ = some (.int .i64 g) ∧ (wr.alloc (.cells #[.int .i64 g, .slice B ss.length scap] 61)).cell? ⟨wr.heap.size, 1, none⟩ = some (.slice B ss.length scap)) := Lib.hid ⟨c0, c1⟩
      obtain ⟨o, ho⟩ : ∃ o, firstP site (T.take k) = o := ⟨_, rfl⟩
      rw [ho] at hstep ⊢
      by_cases hc : site ∈ ss
      · have hd : decide (site ∈ ss) = true := decide_eq_true hc
        rw [hd] at HCC
        cases o with
        | none =>
          have HST : Hid (firstP site (T.take (k + 1)) = some g) := Lib.hid (by rw [hstep]; simp [stepF, hc])
          clear hstep ho hx hk hb hlt h3 hsv hs1 hs2 hbn hat c0 c1 hsl hd hc
          dsimp only [firV, firB, Option.getD, Option.isSome]
          go_wp2_with fail
          refine (HCC.out).mono ?_
          rintro e w4 ⟨rfl, rfl⟩
          have hc0 := HC0.out.1
          go_wp2_with fail
          go_roundw
          case rel => exact ⟨k + 1, HLT.out, by go_num, by rw [HST.out], by rw [HST.out], HB.out⟩
          case measure => have := HLT.out; simp [intOf]; omega
        | some f =>
          by_cases hgf : g < f
          · have HST : Hid (firstP site (T.take (k + 1)) = some g) := Lib.hid (by rw [hstep]; simp [stepF, hc, hgf])
            have hd2 : decide (g < f) = true := decide_eq_true hgf
            clear hstep ho hx hk hb hlt h3 hsv hs1 hs2 hbn hat c0 c1 hsl hd hc
            dsimp only [firV, firB, Option.getD, Option.isSome]
            go_wp2_with fail
            refine (HCC.out).mono ?_
            rintro e w4 ⟨rfl, rfl⟩
            have hc0 := HC0.out.1
            go_wp2_with fail
            go_roundw
            case rel => exact ⟨k + 1, HLT.out, by go_num, by rw [HST.out], by rw [HST.out], HB.out⟩
            case measure => have := HLT.out; simp [intOf]; omega
          · have HST : Hid (firstP site (T.take (k + 1)) = some f) := Lib.hid (by rw [hstep]; simp [stepF, hc, hgf])
            clear hstep ho hx hk hb hlt h3 hsv hs1 hs2 hbn hat c0 c1 hsl hd hc
            dsimp only [firV, firB, Option.getD, Option.isSome]
            go_wp2_with fail
            refine (HCC.out).mono ?_
            rintro e w4 ⟨rfl, rfl⟩
            have hc0 := HC0.out.1
            go_wp2_with fail
            go_roundw
            case rel => exact ⟨k + 1, HLT.out, by go_num, by rw [HST.out], by rw [HST.out], HB.out⟩
            case measure => have := HLT.out; simp [intOf]; omega
      · have hd : decide (site ∈ ss) = false := decide_eq_false hc
        rw [hd] at HCC
        have HST : Hid (firstP site (T.take (k + 1)) = o) := Lib.hid (by rw [hstep]; simp [stepF, hc])
        clear hstep ho hx hk hb hlt h3 hsv hs1 hs2 hbn hat c0 c1 hsl hd hc
        go_wp2_with fail
        refine (HCC.out).mono ?_
        rintro e w4 ⟨rfl, rfl⟩
        have hc0 := HC0.out.1
        go_wp2_with fail
        go_roundw
        case rel => exact ⟨k + 1, HLT.out, by go_num, by rw [HST.out], by rw [HST.out], HB.out⟩
        case measure => have := HLT.out; simp [intOf]; omega
    · obtain rfl : k = T.length := by omega
      rw [List.take_length]
      have HB := Lib.hid hb
      clear hlt hk hb
      obtain ⟨o, ho⟩ : ∃ o, firstP site T = o := ⟨_, rfl⟩
      rw [ho]
      have HO := Lib.hid ho
      clear ho
      go_wp2_with fail
      refine bodyPost_ret (v := .tuple #[.int .i64 (firV o), .bool (firB o)]) (by simp [results, Try.results9, go_sem]) rfl ⟨by rw [HO.out], HB.out⟩
set_option maxRecDepth 100000 in
set_option maxHeartbeats 2000000 in
theorem May_any {w : World} {v : Value} {T : Gr} {g site : Int} (h : UIs w v T) (hl : T.length ≤ 1000) (hs : ∀ u ∈ T, u.2.length ≤ 1000) : Calls Try.prog 7 #[.int .i64 g, .int .i64 site, v] w fun e w' => e = .returned (.bool (mayP g site T)) ∧ Below w.heap.size w w' := by
  have HF := Lib.hid (First_any (site := site) h hl hs)
  have hm := may_first g site T
  obtain ⟨A, cap, rfl, _⟩ := h
  obtain ⟨o, ho⟩ : ∃ o, firstP site T = o := ⟨_, rfl⟩
  rw [ho] at HF hm
  obtain ⟨b, hb⟩ : ∃ b, mayP g site T = b := ⟨_, rfl⟩
  rw [hb] at hm ⊢
  have HM := Lib.hid hm
  clear ho hb hm hl hs
  go_enter Try.func7, Try.ntmps7
  cases o with
  | none =>
    obtain rfl : b = true := HM.out
    dsimp only [firV, firB, Option.getD, Option.isSome] at HF
    go_wp2_with fail
    refine (HF.out).mono ?_
    rintro e w1 ⟨rfl, hb1⟩
    have HB := Lib.hid hb1
    clear hb1
    go_wp2_with fail
    go_ret
    first | exact HB.out | exact ⟨rfl, HB.out⟩
  | some f =>
    have hm : b = decide (g ≤ f) := HM.out
    subst hm
    dsimp only [firV, firB, Option.getD, Option.isSome] at HF
    by_cases hg : g ≤ f
    · have hd : decide (g ≤ f) = true := decide_eq_true hg
      rw [hd]
      clear hd HM
      go_wp2_with fail
      refine (HF.out).mono ?_
      rintro e w1 ⟨rfl, hb1⟩
      have HB := Lib.hid hb1
      clear hb1
      go_wp2_with fail
      go_ret
      first | exact HB.out | exact ⟨rfl, HB.out⟩ | (simp [hg]; exact HB.out)
    · have hd : decide (g ≤ f) = false := decide_eq_false hg
      rw [hd]
      clear hd HM
      go_wp2_with fail
      refine (HF.out).mono ?_
      rintro e w1 ⟨rfl, hb1⟩
      have HB := Lib.hid hb1
      clear hb1
      go_wp2_with fail
      go_ret
      first | exact HB.out | exact ⟨rfl, HB.out⟩ | (simp [hg]; exact HB.out)
end Go.Proofs.Ytlbhpeeggbfcpaa
