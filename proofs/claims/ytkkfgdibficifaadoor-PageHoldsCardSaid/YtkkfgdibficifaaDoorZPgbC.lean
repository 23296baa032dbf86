/- All rows of a store. -/
import Derived.Test.YtkkfgdibficifaaDoorZPagX
import Derived.Test.YtkkfgdibficifaaDoorZPgbB
set_option linter.unusedSimpArgs false
set_option linter.unusedVariables false
set_option linter.unnecessarySimpa false
namespace Go.Proofs.YtkkfgdibficifaaDoor
open Go.RowKit Go.Shelf Go.Sort Go.Lib

set_option maxRecDepth 100000 in
set_option maxHeartbeats 4000000 in
theorem Grow_zero {w : World} :
    Calls Tryd.prog 54 #[.slice none 0 0, .int .i64 0] w fun e w' => e = .returned (.slice none 0 0) ∧ Below w.heap.size w w' := by
  go_enter Tryd.func54, Tryd.ntmps54
  go_wp2_with fail
  go_ret
  exact ⟨rfl, Below.refl _ _⟩
set_option maxRecDepth 100000 in
set_option maxHeartbeats 4000000 in
theorem Concat_zero {w : World} {A : Option Addr} {c : Nat} (hc : c ≤ maxLen) :
    Calls Tryd.prog 46 #[.slice A 0 c] w fun e w' => e = .returned (.slice none 0 0) ∧ Below w.heap.size w w' := by
  have HG := Lib.hid (Grow_zero (w := w))
  unfold maxLen at hc
  go_enter Tryd.func46, Tryd.ntmps46
  go_wp2_with fail
  go_loopw [3, 11] (fun nv iv wr => iv = .int .i64 0 ∧ nv = .int .i64 0 ∧ w = wr) (fun _ iv _ => 0)
  case atStart => exact ⟨rfl, rfl, rfl⟩
  case round =>
    obtain ⟨rfl, rfl, rfl⟩ := hrel
    go_wp2_with fail
    refine (HG.out).mono ?_
    rintro e w2 ⟨rfl, hb2⟩
    have HB2 := Lib.hid hb2
    clear hb2 HG
    go_wp2_with fail
    go_loopw [6, 27] (fun nv iv wr => iv = .int .i64 0 ∧ nv = .slice none 0 0 ∧ w2 = wr) (fun _ iv _ => 0)
    case atStart => exact ⟨rfl, rfl, rfl⟩
    case round =>
      obtain ⟨rfl, rfl, rfl⟩ := hrel
      go_wp2_with fail
      go_ret
      exact ⟨rfl, HB2.out⟩
set_option maxRecDepth 100000 in
set_option maxHeartbeats 4000000 in
theorem Concat_all {w : World} {s most : Nat} {v : Value} {L : List Pl} {P : List (List Row)} (h : St w s most v L P) (hF : Fine most P) (hP : P ≠ []) :
    Calls Tryd.prog 46 #[v] w fun e w' => ∃ G, P.flatten.length ≤ G ∧ e = .returned (.slice (some ⟨w.heap.size, 0, none⟩) P.flatten.length G) ∧ Area w' 2 w.heap.size 0 G (pgC P.flatten) ∧ Below w.heap.size w w' := by
  have hPl : 0 < P.length := List.length_pos_iff.2 hP
  have hfl := flat_len P hF.ne
  have htot := hF.total
  have HG := Lib.hid (Grow_nil (w := w) (n := P.flatten.length) (by omega) (by omega))
  have hpg := fun i p (hp : P[i]? = some p) => hF.page hp
  obtain ⟨a0, g, c, _, rfl, hc1, hc2, _⟩ := row_page h (List.getElem?_eq_getElem hPl)
  unfold maxLen at hc2
  have H := Lib.hid h
  have hlen := hF.len
  have hlI : (P.length : Int) ≤ 256 := by omega
  obtain ⟨N, hN⟩ : ∃ N, P.flatten.length = N := ⟨_, rfl⟩
  have HN := Lib.hid hN
  rw [hN] at HG hfl htot ⊢
  have htI : (N : Int) ≤ 256 := by omega
  have hfle : ∀ i, (P.take i).flatten.length ≤ N := fun i => by rw [← hN]; exact flat_le i
  clear h hN
  go_enter Tryd.func46, Tryd.ntmps46
  go_wp2_with fail
  go_loopw [3, 11] (fun nv iv wr => ∃ i : Nat, i ≤ P.length ∧ iv = .int .i64 i ∧ nv = .int .i64 ((P.take i).flatten.length : Nat) ∧ w = wr) (fun _ iv _ => P.length - (intOf iv).toNat)
  case atStart => exact ⟨0, Nat.zero_le _, rfl, by simp, rfl⟩
  case round =>
    obtain ⟨i, hi, rfl, rfl, rfl⟩ := hrel
    by_cases hlt : i < P.length
    · have hp : P[i]? = some P[i] := List.getElem?_eq_getElem hlt
      generalize P[i] = p at hp
      obtain ⟨a, g', c', ha, hv2, _, _, kc, hA, hac⟩ := row_page H.out hp
      injection hv2 with e1 _ e3
      injection e1 with e1
      injection e1 with e1
      subst e1 e3
      have h1 := flat_take hp
      have h2 := hfle (i + 1)
      have HT := Lib.hid h1
      have hiI : (i : Int) < (P.length : Int) := by omega
      have hn : ((P.take i).flatten.length : Int) + (p.length : Int) ≤ 256 := by omega
      obtain ⟨n, hn1⟩ : ∃ n, (P.take i).flatten.length = n := ⟨_, rfl⟩
      rw [hn1] at hn HT ⊢
      have hw : IntKind.i64.wrap ((n : Int) + (p.length : Int)) = (n : Int) + (p.length : Int) := IntWalk.i64_in _ (by omega)
      have hw0 : ¬ (n : Int) + (p.length : Int) < 0 := by omega
      have HLT := Lib.hid hlt
      clear h1 h2 hA hac hp ha hn1 hlt
      go_wp2_with fail
      go_roundw
      case rel => exact ⟨i + 1, HLT.out, by go_num, by rw [HT.out]; simp, trivial⟩
      case measure => have := HLT.out; simp [intOf]; omega
    · obtain rfl : i = P.length := by omega
      rw [List.take_length, HN.out]
      go_wp2_with fail
      refine (HG.out).mono ?_
      rintro e w2 ⟨G, hG, rfl, hA0, hb2⟩
      have HA0 := Lib.hid hA0
      have HB2 := Lib.hid hb2
      have hGm := hA0.max
      unfold maxLen at hGm
      clear hA0 hb2 HG
      go_wp2_with fail
      go_loopw [6, 27] (fun nv iv wr => ∃ i : Nat, i ≤ P.length ∧ iv = .int .i64 i ∧ nv = .slice (some ⟨w.heap.size, 0, none⟩) ((P.take i).flatten.length) G ∧ Area wr 2 w.heap.size 0 G (pgC (P.take i).flatten) ∧ Below w.heap.size w wr) (fun _ iv _ => P.length - (intOf iv).toNat)
      case atStart => exact ⟨0, Nat.zero_le _, rfl, rfl, HA0.out, HB2.out⟩
      case round =>
        obtain ⟨i, hi, rfl, rfl, hE, hbw⟩ := hrel
        by_cases hlt : i < P.length
        · have hp : P[i]? = some P[i] := List.getElem?_eq_getElem hlt
          generalize P[i] = p at hp
          obtain ⟨a, g', c', ha, hv2, _, _, kc, hA, hac⟩ := row_page (H.out.below hbw) hp
          injection hv2 with e1 _ e3
          injection e1 with e1
          injection e1 with e1
          subst e1 e3
          have h2 := hfle (i + 1)
          have h1 := flat_take hp
          have hpl := (hF.page hp).2.2
          obtain ⟨hrun, hE2, hT⟩ := app_roomN (ty := 28) (n := (P.take i).flatten.length) (m := p.length) hE (by rw [pgC_len]) (hA.src (by rw [pgC_len]) a.cap) (by omega)
          rw [Nat.zero_add] at hrun hE2 hT
          have HE : Hid (Area (wr.setCells w.heap.size ((P.take i).flatten.length * 2) (pgC p)) 2 w.heap.size 0 G (pgC (P.take (i + 1)).flatten) ∧ Below w.heap.size w (wr.setCells w.heap.size ((P.take i).flatten.length * 2) (pgC p))) := Lib.hid ⟨by rw [flat_app hp, pgC_append]; exact hE2, hT.fresh (Nat.le_refl _) hbw⟩
          have HT := Lib.hid h1
          have hiI : (i : Int) < (P.length : Int) := by omega
          have hacm := hA.max
          unfold maxLen at hacm
          have HLT := Lib.hid hlt
          generalize (P.take i).flatten.length = n at hrun HT HE ⊢
          clear hE hE2 hT hbw h1 h2 hA hp ha hlt
          go_wp2_with (at_builtin; refine wpList_app_run rfl _ _ _ _ rfl rfl rfl hrun ?_)
          go_roundw
          case rel => exact ⟨i + 1, HLT.out, by go_num, by rw [HT.out], HE.out.1, HE.out.2⟩
          case measure => have := HLT.out; simp [intOf]; omega
        · obtain rfl : i = P.length := by omega
          rw [List.take_length] at hE ⊢
          rw [HN.out]
          have HE := Lib.hid (And.intro hE hbw)
          clear hE hbw
          go_wp2_with fail
          go_ret
          exact ⟨G, hG, rfl, HE.out.1, HE.out.2⟩
end Go.Proofs.YtkkfgdibficifaaDoor
