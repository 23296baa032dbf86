/- order: the document's own Twice, Ahead and Rises (genoc.py wrote it). -/
import Derived.Test.YtlbhpeeggbfcpaaZOrdU
set_option linter.unusedSimpArgs false
set_option linter.unusedVariables false
set_option linter.unnecessarySimpa false
namespace Go.Proofs.Ytlbhpeeggbfcpaa
open Go.RowKit

theorem tk_cells {w : World} {A : Option Addr} {c k : Nat} {T : List Tk} (h : RowIs w 3 (.slice A T.length c) T.length (tkC T)) {x : Tk} (hx : T[k]? = some x) : ∃ g, A = some ⟨g, 0, none⟩ ∧ w.cell? ⟨g, k * 3, none⟩ = some (.int .i64 x.g) ∧ w.cell? ⟨g, k * 3 + 1, none⟩ = some (.int .i64 x.site) ∧ w.cell? ⟨g, k * 3 + 2, none⟩ = some (.int .i64 x.n) := by
  obtain ⟨c0, c1, c2⟩ := tkC_at hx
  obtain ⟨_, _, e', _, _, _, _, hc⟩ := h.form
  injection e' with e1 _ e3
  subst e1 e3
  obtain ⟨g, rfl, k0⟩ := hc _ _ c0
  obtain ⟨g1, eg1, k1⟩ := hc _ _ c1
  injection eg1 with eg1
  injection eg1 with eg1
  subst eg1
  obtain ⟨g2, eg2, k2⟩ := hc _ _ c2
  injection eg2 with eg2
  injection eg2 with eg2
  subst eg2
  exact ⟨g, rfl, k0, k1, k2⟩
/-- What holds of no pair of places. -/
def NoPr (T : List Tk) (B : Nat → Nat → Tk → Tk → Prop) (i j : Nat) : Prop := ∀ x y, T[i]? = some x → T[j]? = some y → ¬ B i j x y
theorem NoPr.step {T : List Tk} {B : Nat → Nat → Tk → Tk → Prop} {k m : Nat} {x y : Tk} (h : ∀ j, j < m → NoPr T B k j) (hx : T[k]? = some x) (hy : T[m]? = some y) (hn : ¬ B k m x y) : ∀ j, j < m + 1 → NoPr T B k j := fun j hj => by
  by_cases e : j = m
  · subst e
    intro x' y' h1 h2
    rw [hx] at h1
    rw [hy] at h2
    injection h1 with h1
    injection h2 with h2
    subst h1 h2
    exact hn
  · exact h j (by omega)
theorem NoPr.next {T : List Tk} {B : Nat → Nat → Tk → Tk → Prop} {k : Nat} (h : ∀ i j, i < k → NoPr T B i j) (h2 : ∀ j, j < T.length → NoPr T B k j) : ∀ i j, i < k + 1 → NoPr T B i j := fun i j hi => by
  by_cases e : i = k
  · subst e
    intro x y hx hy
    exact h2 j (List.getElem?_eq_some_iff.1 hy).1 x y hx hy
  · exact h i j (by omega)
theorem NoPr.all {T : List Tk} {B : Nat → Nat → Tk → Tk → Prop} (h : ∀ i j, i < T.length → NoPr T B i j) {i j : Nat} {x y : Tk} (hx : T[i]? = some x) (hy : T[j]? = some y) : ¬ B i j x y := h i j (List.getElem?_eq_some_iff.1 hx).1 x y hx hy
open Classical in
noncomputable def twB (T : List Tk) : Bool := decide (¬ OnceP T)
theorem twB_iff {T : List Tk} : twB T = true ↔ ¬ OnceP T := by unfold twB; simp
open Classical in
noncomputable def riA (T : List Tk) : Bool := decide (OnceP T ∧ RisP T)
theorem riA_iff {T : List Tk} : riA T = true ↔ OnceP T ∧ RisP T := by unfold riA; simp
def TwB (i j : Nat) (x y : Tk) : Prop := (i : Int) ≠ (j : Int) ∧ x.site = y.site ∧ x.n = y.n
def AhB (a b : Int) (_ _ : Nat) (x y : Tk) : Prop := x.g = a ∧ y.g = b ∧ a ≠ b ∧ x.site = y.site ∧ x.n < y.n
def RiB (_ _ : Nat) (x y : Tk) : Prop := x.site = y.site ∧ x.n < y.n ∧ y.g < x.g
theorem tw_none {T : List Tk} (h : ∀ i j, i < T.length → NoPr T TwB i j) : OnceP T := by
  unfold OnceP
  rw [List.pairwise_iff_getElem]
  intro i j hi hj hij e
  exact NoPr.all h (List.getElem?_eq_getElem hi) (List.getElem?_eq_getElem hj) ⟨by omega, e⟩
theorem tw_some {T : List Tk} {i j : Nat} {x y : Tk} (hx : T[i]? = some x) (hy : T[j]? = some y) (h : TwB i j x y) : ¬ OnceP T := fun ho => by
  obtain ⟨hi, hx⟩ := List.getElem?_eq_some_iff.1 hx
  obtain ⟨hj, hy⟩ := List.getElem?_eq_some_iff.1 hy
  have ho := List.pairwise_iff_getElem.1 ho
  obtain ⟨hne, hs, hn⟩ := h
  rcases Nat.lt_or_gt_of_ne (show i ≠ j by omega) with hlt | hlt
  · exact ho i j hi hj hlt ⟨by rw [hx, hy]; exact hs, by rw [hx, hy]; exact hn⟩
  · exact ho j i hj hi hlt ⟨by rw [hx, hy]; exact hs.symm, by rw [hx, hy]; exact hn.symm⟩
theorem ah_none {T : List Tk} {a b : Int} (h : ∀ i j, i < T.length → NoPr T (AhB a b) i j) : aheadB T a b = false := by
  cases he : aheadB T a b with
  | false => rfl
  | true =>
    obtain ⟨x, hx, y, hy, h5⟩ := ahead_iff.1 he
    obtain ⟨i, hi⟩ := List.getElem?_of_mem hx
    obtain ⟨j, hj⟩ := List.getElem?_of_mem hy
    exact absurd h5 (NoPr.all h hi hj)
theorem ah_some {T : List Tk} {a b : Int} {i j : Nat} {x y : Tk} (hx : T[i]? = some x) (hy : T[j]? = some y) (h : AhB a b i j x y) : aheadB T a b = true := ahead_iff.2 ⟨x, List.mem_of_getElem? hx, y, List.mem_of_getElem? hy, h⟩
theorem ri_none {T : List Tk} (h : ∀ i j, i < T.length → NoPr T RiB i j) : RisP T := fun x hx y hy hs hn => by
  obtain ⟨i, hi⟩ := List.getElem?_of_mem hx
  obtain ⟨j, hj⟩ := List.getElem?_of_mem hy
  have := NoPr.all h hi hj
  by_cases hg : y.g < x.g
  · exact absurd ⟨hs, hn, hg⟩ this
  · omega
theorem ri_some {T : List Tk} {i j : Nat} {x y : Tk} (hx : T[i]? = some x) (hy : T[j]? = some y) (h : RiB i j x y) : ¬ RisP T := fun hr => by
  have := hr x (List.mem_of_getElem? hx) y (List.mem_of_getElem? hy) h.1 h.2.1
  have := h.2.2
  omega
set_option maxRecDepth 100000 in
set_option maxHeartbeats 4000000 in
theorem Twice_any {w : World} {v : Value} {T : List Tk} (h : RowIs w 3 v T.length (tkC T)) (hl : T.length ≤ 1000) : Calls Try.prog 37 #[v] w fun e w' => e = .returned (.bool (twB T)) ∧ Below w.heap.size w w' := by
  obtain ⟨A, cap, rfl, h1, h2, _⟩ := id h.form
  unfold maxLen at h2
  have hlI : (T.length : Int) ≤ 1000 := by omega
  have HH := Lib.hid h
  have HL := Lib.hid hl
  clear h
  go_enter Try.func37, Try.ntmps37
  go_wp2_with fail
  go_loopw [9] (fun iv wr => ∃ k : Nat, k ≤ T.length ∧ iv = .int .i64 k ∧ (∀ i j, i < k → NoPr T (TwB) i j) ∧ Below w.heap.size w wr) (fun iv _ => T.length - (intOf iv).toNat)
  case atStart => exact ⟨0, Nat.zero_le _, rfl, (fun i j h => by omega), Below.refl _ _⟩
  case round =>
    obtain ⟨k, hk, rfl, hno, hb⟩ := hrel
    by_cases hlt : k < T.length
    · have hx : T[k]? = some T[k] := List.getElem?_eq_getElem hlt
      generalize T[k] = x at hx
      obtain ⟨g, rfl, k0, k1, k2⟩ := tk_cells (HH.out.below hb) hx
      have hi : (k : Int) < (T.length : Int) := by omega
      have hbn := below_new (w := wr) (.cells #[.int .i64 x.g, .int .i64 x.site, .int .i64 x.n] 78)
      have hat := alloc_at wr (.cells #[.int .i64 x.g, .int .i64 x.site, .int .i64 x.n] 78)
      have hzz := asz wr (.cells #[.int .i64 x.g, .int .i64 x.site, .int .i64 x.n] 78)
      have HB := Lib.hid (hb.trans (hbn.mono hb.size))
      have HNO := Lib.hid hno
      have HX := Lib.hid hx
      have HLT := Lib.hid hlt
      clear hno hb hx hk hlt hbn
      go_wp2_with fail
      generalize wr.alloc (.cells #[.int .i64 x.g, .int .i64 x.site, .int .i64 x.n] 78) = WB at *
      generalize wr.heap.size = zr at *
      have HAT := Lib.hid hat
      have HZZ := Lib.hid hzz
      clear hat hzz k0 k1 k2
      go_loopw [16] (fun jv wx => ∃ m : Nat, m ≤ T.length ∧ jv = .int .i64 m ∧ (∀ j, j < m → NoPr T (TwB) k j) ∧ Below WB.heap.size WB wx) (fun jv _ => T.length - (intOf jv).toNat)
      case atStart => exact ⟨0, Nat.zero_le _, rfl, (fun j h => by omega), Below.refl _ _⟩
      case round =>
        obtain ⟨m, hm, rfl, hnj, hbx⟩ := hrel
        have hbox := (hbx.block zr (by have := HZZ.out; omega)).trans HAT.out
        by_cases hml : m < T.length
        · have hy : T[m]? = some T[m] := List.getElem?_eq_getElem hml
          generalize T[m] = y at hy
          have hbw := HB.out.trans (hbx.mono HB.out.size)
          obtain ⟨g', eg, k0, k1, k2⟩ := tk_cells (HH.out.below hbw) hy
          injection eg with eg
          injection eg with eg
          subst eg
          have hj : (m : Int) < (T.length : Int) := by omega
          have hbn := below_new (w := wr) (.cells #[.int .i64 y.g, .int .i64 y.site, .int .i64 y.n] 78)
          have hbox2 := (hbn.block zr (heap_lt hbox)).trans hbox
          have c0 := cell_of hbox2 0
          have c1 := cell_of hbox2 1
          have c2 := cell_of hbox2 2
          simp at c0 c1 c2
          have HBY := Lib.hid (hbx.trans (hbn.mono hbx.size))
          have HBF := Lib.hid (hbw.trans (hbn.mono hbw.size))
          have HNJ := Lib.hid hnj
          have HY := Lib.hid hy
          have HML := Lib.hid hml
          clear hnj hbw hbn hbx hy hm hml hbox hbox2
          by_cases hkm : (k : Int) ≠ (m : Int)
          · have hkm1 : ((k : Int) != (m : Int)) = true := by simp; omega
            have hkm2 : ((k : Int) == (m : Int)) = false := by simp; omega
            by_cases hs : x.site = y.site
            · have hs1 : (x.site == y.site) = true := by rw [hs]; exact beq_self_eq_true _
              by_cases hn : x.n = y.n
              · have hn1 : (x.n == y.n) = true := by rw [hn]; exact beq_self_eq_true _
                have HXX : Hid (twB T = true) := Lib.hid (twB_iff.2 (tw_some HX.out HY.out (show TwB k m x y from ⟨hkm, hs, hn⟩)))
                clear hkm hs hn
                go_wp2_with fail
                refine bodyPost_ret (v := .bool true) (by simp [results, Try.results37, go_sem]) rfl ⟨by rw [HXX.out], HBF.out⟩
              · have hn1 : (x.n == y.n) = false := by rw [beq_eq_false_iff_ne]; exact hn
                have HOK := Lib.hid (NoPr.step HNJ.out HX.out HY.out (fun e => hn (e.2.2)))
                clear hkm hs hn
                go_wp2_with fail
                go_roundw
                case rel => exact ⟨m + 1, HML.out, by go_num, HOK.out, HBY.out⟩
                case measure => have := HML.out; simp [intOf]; omega
            · have hs1 : (x.site == y.site) = false := by rw [beq_eq_false_iff_ne]; exact hs
              have HOK := Lib.hid (NoPr.step HNJ.out HX.out HY.out (fun e => hs (e.2.1)))
              clear hkm hs
              go_wp2_with fail
              go_roundw
              case rel => exact ⟨m + 1, HML.out, by go_num, HOK.out, HBY.out⟩
              case measure => have := HML.out; simp [intOf]; omega
          · have hkm1 : ((k : Int) != (m : Int)) = false := by simp; omega
            have hkm2 : ((k : Int) == (m : Int)) = true := by simp; omega
            have HOK := Lib.hid (NoPr.step HNJ.out HX.out HY.out (fun e => hkm (e.1)))
            clear hkm
            go_wp2_with fail
            go_roundw
            case rel => exact ⟨m + 1, HML.out, by go_num, HOK.out, HBY.out⟩
            case measure => have := HML.out; simp [intOf]; omega
        · obtain rfl : m = T.length := by omega
          have HNX := Lib.hid (NoPr.next HNO.out hnj)
          have HBZ := Lib.hid (HB.out.trans (hbx.mono HB.out.size))
          clear hnj hbx hm hml hbox
          go_wp2_with fail
          go_roundw
          case rel => exact ⟨k + 1, HLT.out, by go_num, HNX.out, HBZ.out⟩
          case measure => have := HLT.out; simp [intOf]; omega
    · obtain rfl : k = T.length := by omega
      have HNO := Lib.hid hno
      have HB := Lib.hid hb
      clear hno hb hlt hk
      go_wp2_with fail
      refine bodyPost_ret (v := .bool false) (by simp [results, Try.results37, go_sem]) rfl ⟨by rw [show twB T = false from by cases he : twB T with | false => rfl | true => exact absurd (tw_none HNO.out) (twB_iff.1 he)], HB.out⟩
set_option maxRecDepth 100000 in
set_option maxHeartbeats 4000000 in
theorem Ahead_any {w : World} {v : Value} {T : List Tk} {a b : Int} (h : RowIs w 3 v T.length (tkC T)) (hl : T.length ≤ 1000) : Calls Try.prog 20 #[.int .i64 a, .int .i64 b, v] w fun e w' => e = .returned (.bool (aheadB T a b)) ∧ Below w.heap.size w w' := by
  obtain ⟨A, cap, rfl, h1, h2, _⟩ := id h.form
  unfold maxLen at h2
  have hlI : (T.length : Int) ≤ 1000 := by omega
  have HH := Lib.hid h
  have HL := Lib.hid hl
  clear h
  go_enter Try.func20, Try.ntmps20
  go_wp2_with fail
  go_loopw [13] (fun iv wr => ∃ k : Nat, k ≤ T.length ∧ iv = .int .i64 k ∧ (∀ i j, i < k → NoPr T (AhB a b) i j) ∧ Below w.heap.size w wr) (fun iv _ => T.length - (intOf iv).toNat)
  case atStart => exact ⟨0, Nat.zero_le _, rfl, (fun i j h => by omega), Below.refl _ _⟩
  case round =>
    obtain ⟨k, hk, rfl, hno, hb⟩ := hrel
    by_cases hlt : k < T.length
    · have hx : T[k]? = some T[k] := List.getElem?_eq_getElem hlt
      generalize T[k] = x at hx
      obtain ⟨g, rfl, k0, k1, k2⟩ := tk_cells (HH.out.below hb) hx
      have hi : (k : Int) < (T.length : Int) := by omega
      have hbn := below_new (w := wr) (.cells #[.int .i64 x.g, .int .i64 x.site, .int .i64 x.n] 78)
      have hat := alloc_at wr (.cells #[.int .i64 x.g, .int .i64 x.site, .int .i64 x.n] 78)
      have hzz := asz wr (.cells #[.int .i64 x.g, .int .i64 x.site, .int .i64 x.n] 78)
      have HB := Lib.hid (hb.trans (hbn.mono hb.size))
      have HNO := Lib.hid hno
      have HX := Lib.hid hx
      have HLT := Lib.hid hlt
      clear hno hb hx hk hlt hbn
      go_wp2_with fail
      generalize wr.alloc (.cells #[.int .i64 x.g, .int .i64 x.site, .int .i64 x.n] 78) = WB at *
      generalize wr.heap.size = zr at *
      have HAT := Lib.hid hat
      have HZZ := Lib.hid hzz
      clear hat hzz k0 k1 k2
      go_loopw [19] (fun jv wx => ∃ m : Nat, m ≤ T.length ∧ jv = .int .i64 m ∧ (∀ j, j < m → NoPr T (AhB a b) k j) ∧ Below WB.heap.size WB wx) (fun jv _ => T.length - (intOf jv).toNat)
      case atStart => exact ⟨0, Nat.zero_le _, rfl, (fun j h => by omega), Below.refl _ _⟩
      case round =>
        obtain ⟨m, hm, rfl, hnj, hbx⟩ := hrel
        have hbox := (hbx.block zr (by have := HZZ.out; omega)).trans HAT.out
        by_cases hml : m < T.length
        · have hy : T[m]? = some T[m] := List.getElem?_eq_getElem hml
          generalize T[m] = y at hy
          have hbw := HB.out.trans (hbx.mono HB.out.size)
          obtain ⟨g', eg, k0, k1, k2⟩ := tk_cells (HH.out.below hbw) hy
          injection eg with eg
          injection eg with eg
          subst eg
          have hj : (m : Int) < (T.length : Int) := by omega
          have hbn := below_new (w := wr) (.cells #[.int .i64 y.g, .int .i64 y.site, .int .i64 y.n] 78)
          have hbox2 := (hbn.block zr (heap_lt hbox)).trans hbox
          have c0 := cell_of hbox2 0
          have c1 := cell_of hbox2 1
          have c2 := cell_of hbox2 2
          simp at c0 c1 c2
          have HBY := Lib.hid (hbx.trans (hbn.mono hbx.size))
          have HBF := Lib.hid (hbw.trans (hbn.mono hbw.size))
          have HNJ := Lib.hid hnj
          have HY := Lib.hid hy
          have HML := Lib.hid hml
          clear hnj hbw hbn hbx hy hm hml hbox hbox2
          by_cases ha : x.g = a
          · have ha1 : (x.g == a) = true := by rw [ha]; exact beq_self_eq_true _
            by_cases hb2 : y.g = b
            · have hb21 : (y.g == b) = true := by rw [hb2]; exact beq_self_eq_true _
              by_cases hab : a ≠ b
              · have hab1 : (a != b) = true := by simp; omega
                have hab2 : (a == b) = false := by simp; omega
                by_cases hs : x.site = y.site
                · have hs1 : (x.site == y.site) = true := by rw [hs]; exact beq_self_eq_true _
                  by_cases hn : x.n < y.n
                  · skip
                    have HXX : Hid (aheadB T a b = true) := Lib.hid (ah_some HX.out HY.out (show AhB a b k m x y from ⟨ha, hb2, hab, hs, hn⟩))
                    clear ha hb2 hab hs
                    go_wp2_with fail
                    refine bodyPost_ret (v := .bool true) (by simp [results, Try.results20, go_sem]) rfl ⟨by rw [HXX.out], HBF.out⟩
                  · skip
                    have HOK := Lib.hid (NoPr.step HNJ.out HX.out HY.out (fun e => hn (e.2.2.2.2)))
                    clear ha hb2 hab hs
                    go_wp2_with fail
                    go_roundw
                    case rel => exact ⟨m + 1, HML.out, by go_num, HOK.out, HBY.out⟩
                    case measure => have := HML.out; simp [intOf]; omega
                · have hs1 : (x.site == y.site) = false := by rw [beq_eq_false_iff_ne]; exact hs
                  have HOK := Lib.hid (NoPr.step HNJ.out HX.out HY.out (fun e => hs (e.2.2.2.1)))
                  clear ha hb2 hab hs
                  go_wp2_with fail
                  go_roundw
                  case rel => exact ⟨m + 1, HML.out, by go_num, HOK.out, HBY.out⟩
                  case measure => have := HML.out; simp [intOf]; omega
              · have hab1 : (a != b) = false := by simp; omega
                have hab2 : (a == b) = true := by simp; omega
                have HOK := Lib.hid (NoPr.step HNJ.out HX.out HY.out (fun e => hab (e.2.2.1)))
                clear ha hb2 hab
                go_wp2_with fail
                go_roundw
                case rel => exact ⟨m + 1, HML.out, by go_num, HOK.out, HBY.out⟩
                case measure => have := HML.out; simp [intOf]; omega
            · have hb21 : (y.g == b) = false := by rw [beq_eq_false_iff_ne]; exact hb2
              have HOK := Lib.hid (NoPr.step HNJ.out HX.out HY.out (fun e => hb2 (e.2.1)))
              clear ha hb2
              go_wp2_with fail
              go_roundw
              case rel => exact ⟨m + 1, HML.out, by go_num, HOK.out, HBY.out⟩
              case measure => have := HML.out; simp [intOf]; omega
          · have ha1 : (x.g == a) = false := by rw [beq_eq_false_iff_ne]; exact ha
            have HOK := Lib.hid (NoPr.step HNJ.out HX.out HY.out (fun e => ha (e.1)))
            clear ha
            go_wp2_with fail
            go_roundw
            case rel => exact ⟨m + 1, HML.out, by go_num, HOK.out, HBY.out⟩
            case measure => have := HML.out; simp [intOf]; omega
        · obtain rfl : m = T.length := by omega
          have HNX := Lib.hid (NoPr.next HNO.out hnj)
          have HBZ := Lib.hid (HB.out.trans (hbx.mono HB.out.size))
          clear hnj hbx hm hml hbox
          go_wp2_with fail
          go_roundw
          case rel => exact ⟨k + 1, HLT.out, by go_num, HNX.out, HBZ.out⟩
          case measure => have := HLT.out; simp [intOf]; omega
    · obtain rfl : k = T.length := by omega
      have HNO := Lib.hid hno
      have HB := Lib.hid hb
      clear hno hb hlt hk
      go_wp2_with fail
      refine bodyPost_ret (v := .bool false) (by simp [results, Try.results20, go_sem]) rfl ⟨by rw [ah_none HNO.out], HB.out⟩
set_option maxRecDepth 100000 in
set_option maxHeartbeats 4000000 in
theorem RRises_any {w : World} {v : Value} {T : List Tk} (h : RowIs w 3 v T.length (tkC T)) (hl : T.length ≤ 1000) : Calls Try.prog 19 #[v] w fun e w' => e = .returned (.bool (riA T)) ∧ Below w.heap.size w w' := by
  obtain ⟨A, cap, rfl, h1, h2, _⟩ := id h.form
  unfold maxLen at h2
  have hlI : (T.length : Int) ≤ 1000 := by omega
  have HH := Lib.hid h
  have HL := Lib.hid hl
  clear h
  go_enter Try.func19, Try.ntmps19
  go_wp2_with fail
  go_loopw [9] (fun iv wr => ∃ k : Nat, k ≤ T.length ∧ iv = .int .i64 k ∧ (∀ i j, i < k → NoPr T (RiB) i j) ∧ Below w.heap.size w wr) (fun iv _ => T.length - (intOf iv).toNat)
  case atStart => exact ⟨0, Nat.zero_le _, rfl, (fun i j h => by omega), Below.refl _ _⟩
  case round =>
    obtain ⟨k, hk, rfl, hno, hb⟩ := hrel
    by_cases hlt : k < T.length
    · have hx : T[k]? = some T[k] := List.getElem?_eq_getElem hlt
      generalize T[k] = x at hx
      obtain ⟨g, rfl, k0, k1, k2⟩ := tk_cells (HH.out.below hb) hx
      have hi : (k : Int) < (T.length : Int) := by omega
      have hbn := below_new (w := wr) (.cells #[.int .i64 x.g, .int .i64 x.site, .int .i64 x.n] 78)
      have hat := alloc_at wr (.cells #[.int .i64 x.g, .int .i64 x.site, .int .i64 x.n] 78)
      have hzz := asz wr (.cells #[.int .i64 x.g, .int .i64 x.site, .int .i64 x.n] 78)
      have HB := Lib.hid (hb.trans (hbn.mono hb.size))
      have HNO := Lib.hid hno
      have HX := Lib.hid hx
      have HLT := Lib.hid hlt
      clear hno hb hx hk hlt hbn
      go_wp2_with fail
      generalize wr.alloc (.cells #[.int .i64 x.g, .int .i64 x.site, .int .i64 x.n] 78) = WB at *
      generalize wr.heap.size = zr at *
      have HAT := Lib.hid hat
      have HZZ := Lib.hid hzz
      clear hat hzz k0 k1 k2
      go_loopw [15] (fun jv wx => ∃ m : Nat, m ≤ T.length ∧ jv = .int .i64 m ∧ (∀ j, j < m → NoPr T (RiB) k j) ∧ Below WB.heap.size WB wx) (fun jv _ => T.length - (intOf jv).toNat)
      case atStart => exact ⟨0, Nat.zero_le _, rfl, (fun j h => by omega), Below.refl _ _⟩
      case round =>
        obtain ⟨m, hm, rfl, hnj, hbx⟩ := hrel
        have hbox := (hbx.block zr (by have := HZZ.out; omega)).trans HAT.out
        by_cases hml : m < T.length
        · have hy : T[m]? = some T[m] := List.getElem?_eq_getElem hml
          generalize T[m] = y at hy
          have hbw := HB.out.trans (hbx.mono HB.out.size)
          obtain ⟨g', eg, k0, k1, k2⟩ := tk_cells (HH.out.below hbw) hy
          injection eg with eg
          injection eg with eg
          subst eg
          have hj : (m : Int) < (T.length : Int) := by omega
          have hbn := below_new (w := wr) (.cells #[.int .i64 y.g, .int .i64 y.site, .int .i64 y.n] 78)
          have hbox2 := (hbn.block zr (heap_lt hbox)).trans hbox
          have c0 := cell_of hbox2 0
          have c1 := cell_of hbox2 1
          have c2 := cell_of hbox2 2
          simp at c0 c1 c2
          have HBY := Lib.hid (hbx.trans (hbn.mono hbx.size))
          have HBF := Lib.hid (hbw.trans (hbn.mono hbw.size))
          have HNJ := Lib.hid hnj
          have HY := Lib.hid hy
          have HML := Lib.hid hml
          clear hnj hbw hbn hbx hy hm hml hbox hbox2
          by_cases hs : x.site = y.site
          · have hs1 : (x.site == y.site) = true := by rw [hs]; exact beq_self_eq_true _
            by_cases hn : x.n < y.n
            · skip
              by_cases hg : y.g < x.g
              · skip
                have HXX : Hid (riA T = false) := Lib.hid (by cases he : riA T with | false => rfl | true => exact absurd (riA_iff.1 he).2 (ri_some HX.out HY.out (show RiB k m x y from ⟨hs, hn, hg⟩)))
                clear hs
                go_wp2_with fail
                refine bodyPost_ret (v := .bool false) (by simp [results, Try.results19, go_sem]) rfl ⟨by rw [HXX.out], HBF.out⟩
              · skip
                have HOK := Lib.hid (NoPr.step HNJ.out HX.out HY.out (fun e => hg (e.2.2)))
                clear hs
                go_wp2_with fail
                go_roundw
                case rel => exact ⟨m + 1, HML.out, by go_num, HOK.out, HBY.out⟩
                case measure => have := HML.out; simp [intOf]; omega
            · skip
              have HOK := Lib.hid (NoPr.step HNJ.out HX.out HY.out (fun e => hn (e.2.1)))
              clear hs
              go_wp2_with fail
              go_roundw
              case rel => exact ⟨m + 1, HML.out, by go_num, HOK.out, HBY.out⟩
              case measure => have := HML.out; simp [intOf]; omega
          · have hs1 : (x.site == y.site) = false := by rw [beq_eq_false_iff_ne]; exact hs
            have HOK := Lib.hid (NoPr.step HNJ.out HX.out HY.out (fun e => hs (e.1)))
            clear hs
            go_wp2_with fail
            go_roundw
            case rel => exact ⟨m + 1, HML.out, by go_num, HOK.out, HBY.out⟩
            case measure => have := HML.out; simp [intOf]; omega
        · obtain rfl : m = T.length := by omega
          have HNX := Lib.hid (NoPr.next HNO.out hnj)
          have HBZ := Lib.hid (HB.out.trans (hbx.mono HB.out.size))
          clear hnj hbx hm hml hbox
          go_wp2_with fail
          go_roundw
          case rel => exact ⟨k + 1, HLT.out, by go_num, HNX.out, HBZ.out⟩
          case measure => have := HLT.out; simp [intOf]; omega
    · obtain rfl : k = T.length := by omega
      have HNO := Lib.hid hno
      have HB := Lib.hid hb
      clear hno hb hlt hk
      have HTW := Lib.hid (Twice_any (HH.out.below HB.out) HL.out)
      go_wp2_with fail
      refine (HTW.out).mono ?_
      rintro e w5 ⟨rfl, hb5⟩
      have HB5 := Lib.hid (HB.out.trans (hb5.mono HB.out.size))
      obtain ⟨b, hbe⟩ : ∃ b, twB T = b := ⟨_, rfl⟩
      rw [hbe]
      have HQ : Hid (riA T = !b) := Lib.hid (by
        have h1 := ri_none HNO.out
        have h2 := twB_iff (T := T)
        rw [hbe] at h2
        cases b with
        | true =>
          cases he : riA T with
          | false => rfl
          | true => exact absurd (riA_iff.1 he).1 (h2.1 rfl)
        | false => exact riA_iff.2 ⟨Classical.byContradiction fun e => (by cases h2.2 e), h1⟩)
      clear hb5 HTW hbe
      go_wp2_with fail
      refine bodyPost_ret (v := .bool (!b)) (by simp [results, Try.results19, go_sem]) rfl ⟨by rw [HQ.out], HB5.out⟩
end Go.Proofs.Ytlbhpeeggbfcpaa
