/- WaitLess: without all edges from and to a victim, again and again, nobody stands in a circle at last. -/
import Derived.Test.YtmpjimoefjcmhaaZWig
import Derived.Test.YtmpjimoefjcmhaaZWaiM
set_option linter.unusedSimpArgs false
set_option linter.unusedVariables false
set_option linter.unnecessarySimpa false
namespace Go.Proofs.Ytmpjimoefjcmhaa
open Go.RowKit

theorem infoR : (Try.prog.info? 40).map (fun i => (i.zero, i.size, i.bytes)) = some (some (.agg #[.int .i64 0, .int .i64 0]), 2, 16) := by kernel_rfl
theorem app_edgeR {w : World} {v : Value} {l : List (Int × Int)} (x y : Int) (ty : TypeId) (h : RowIs w 2 v l.length (edgesC l)) (hl : l.length ≤ 1000000) : ∃ v' w', (Builtin.append_ #[22, 22] ty #[v, .slice (some ⟨w.heap.size, 0, none⟩) 1 1]).run Try.prog (w.alloc (.cells #[.int .i64 x, .int .i64 y] 40)) = .ok v' w' ∧ RowIs w' 2 v' (l ++ [(x, y)]).length (edgesC (l ++ [(x, y)])) ∧ Touch (fun k => v.ownBlock = some k) w w' ∧ (∀ k, v'.ownBlock = some k → v.ownBlock = some k ∨ w.heap.size ≤ k) := by
  have hb := below_new (w := w) (.cells #[.int .i64 x, .int .i64 y] 40)
  have hsrc : Src Try.prog 2 22 (.slice (some ⟨w.heap.size, 0, none⟩) 1 1) 1 [.int .i64 x, .int .i64 y] (w.alloc (.cells #[.int .i64 x, .int .i64 y] 40)) :=
    Src.ofSlice _ Try.underlying22 ⟨w.heap.size, 0, none⟩ 1 1 [.int .i64 x, .int .i64 y] rfl (fun j u hu => by
      rw [add0, cell_of (alloc_at w _)]
      simpa using hu) (by simp [Value.oneCell'])
  obtain ⟨v', w', hr, h2, h3, h4⟩ := run_append_row (w.alloc (.cells #[.int .i64 x, .int .i64 y] 40)) 22 40 ty 22 Try.underlying22 infoR rfl (by omega) (by omega) v l.length 1 (edgesC l) [.int .i64 x, .int .i64 y] _ (h.below hb) hsrc (by omega)
  refine ⟨v', w', hr, by rw [List.length_append, edgesC_snoc]; exact h2, (Touch.of_below hb).grown h3 (fun k hk _ => hk), fun k hk => ?_⟩
  rcases h4 with e | e
  · exact .inl (e ▸ hk)
  · right
    rw [e] at hk
    have := Option.some.inj hk
    rw [asz] at this
    omega
/-- Is an edge neither from nor to one? -/
def offE (n : Int) (e : Int × Int) : Bool := !(e.1 == n) && !(e.2 == n)
theorem vict_less {l : List (Int × Int)} {n : Int} (h : VictP l n true) : (l.filter (offE n)).length < l.length := by
  obtain ⟨c, hc, h⟩ := h
  rcases h with ⟨_, _, hb⟩ | ⟨c0, he, _⟩
  · cases hb
  · have hn : n ∈ c := by rw [he]; simp
    obtain ⟨z, hz, _⟩ := (hc.mem n).1 hn
    refine List.length_filter_lt_length_iff_exists.2 ⟨(n, z), hz, ?_⟩
    simp [offE]
theorem vict_none {l : List (Int × Int)} {n : Int} {c : List Int} (h : VictP l n false) (hc : CircP l c) : c = [] := by
  obtain ⟨d, hd, h⟩ := h
  rcases h with ⟨he, _, _⟩ | ⟨c0, _, hb⟩
  · rw [hc.uniq hd (fun _ => Iff.rfl), he]
  · cases hb
theorem filter_take {l : List (Int × Int)} {k : Nat} {x : Int × Int} (p : Int × Int → Bool) (h : l[k]? = some x) : (l.take (k + 1)).filter p = (l.take k).filter p ++ if p x then [x] else [] := by
  have hk := (List.getElem?_eq_some_iff.1 h).1
  rw [List.take_succ_eq_append_getElem hk, (List.getElem?_eq_some_iff.1 h).2, List.filter_append]
  congr 1
  by_cases hp : p x = true
  · simp [hp]
  · simp [hp]
set_option maxRecDepth 100000 in
set_option maxHeartbeats 4000000 in
theorem law_less {w : World} {v : Value} {l0 : List (Int × Int)} (h : EIs w v l0) (hr : ∀ e ∈ l0, InR64 e.1 ∧ InR64 e.2) :
    Calls Try.prog 4 #[v] w fun e w' => e = .returned (.bool true) ∧ Below w.heap.size w w' := by
  have HC := Lib.hid (cut_any h)
  have HR : Hid (∀ e ∈ l0.take 24, InR64 e.1 ∧ InR64 e.2) := Lib.hid (fun e he => hr e (List.mem_of_mem_take he))
  have hl : (l0.take 24).length ≤ 24 := by rw [List.length_take]; omega
  generalize l0.take 24 = l at HC HR hl
  clear h hr
  go_enter Try.func4, Try.ntmps4
  go_wp2_with fail
  refine (HC.out).mono ?_
  rintro e w1 ⟨v1, rfl, he1, rfl⟩
  have HE1 := Lib.hid he1
  clear he1 HC
  go_wp2_with fail
  go_loopw [0, 3] (fun lv iv wr => ∃ (l : List (Int × Int)) (k : Nat), iv = .int .i64 k ∧ l.length + k ≤ 24 ∧ EIs wr lv l ∧ (∀ e ∈ l, InR64 e.1 ∧ InR64 e.2) ∧ Below w1.heap.size w1 wr) (fun _ iv _ => 24 - (intOf iv).toNat)
  case atStart => exact ⟨l, 0, rfl, hl, HE1.out, HR.out, Below.refl _ _⟩
  case round =>
    obtain ⟨m, k, rfl, hk, he, hm, hb⟩ := hrel
    have HE := Lib.hid he
    have HM := Lib.hid hm
    have HB := Lib.hid hb
    have hi : (k : Int) < 50 := by omega
    have HO := Lib.hid (ours_any he (by omega))
    have HK := Lib.hid hk
    clear he hm hb hl hk
    go_wp2_with fail
    refine (HO.out).mono ?_
    rintro e w2 ⟨v2, rfl, he2, hb2⟩
    have HV := Lib.hid (victim_any he2 HM.out (by have := HK.out; omega))
    have HB2 := Lib.hid (HB.out.trans (hb2.mono HB.out.size))
    have HE2 := Lib.hid (HE.out.below hb2)
    clear he2 hb2 HO
    go_wp2_with fail
    refine (HV.out).mono ?_
    rintro e w3 ⟨n, b, rfl, hv, hb3⟩
    have HVP := Lib.hid hv
    have HB3 := Lib.hid (HB2.out.trans (hb3.mono HB2.out.size))
    have HE3 := Lib.hid (HE2.out.below hb3)
    clear hv hb3 HV
    cases b with
    | false =>
      have HO3 := Lib.hid (ours_any HE3.out (by have := HK.out; omega))
      go_wp2_with fail
      refine (HO3.out).mono ?_
      rintro e w4 ⟨v4, rfl, he4, hb4⟩
      have HCI := Lib.hid (circles_any he4 HM.out (by have := HK.out; omega))
      have HB4 := Lib.hid (HB3.out.trans (hb4.mono HB3.out.size))
      clear he4 hb4 HO3
      go_wp2_with fail
      refine (HCI.out).mono ?_
      rintro e w5 ⟨v5, c, rfl, hc, hv5, _, hb5⟩
      have := vict_none HVP.out hc
      subst this
      obtain ⟨A5, c5, e5, _⟩ := hv5.form
      subst e5
      have HB5 := Lib.hid (HB4.out.trans (hb5.mono HB4.out.size))
      have HAW := Lib.hid (awake_any w5)
      clear hc hv5 hb5 HCI
      go_wp2_with fail
      refine (HAW.out).mono ?_
      rintro e w6 ⟨rfl, hb6⟩
      have HB6 := Lib.hid (HB5.out.trans (hb6.mono HB5.out.size))
      clear hb6 HAW
      go_wp2_with fail
      go_ret
      first | exact HB6.out | exact ⟨rfl, HB6.out⟩
    | true =>
      have HLS := Lib.hid (vict_less HVP.out)
      obtain ⟨A3, c3, e3, hc31, hc32, _⟩ := HE3.out
      subst e3
      unfold maxLen at hc32
      have hmI : (m.length : Int) ≤ 24 := by have := HK.out; omega
      go_wp2_with fail
      go_loopw [6, 33] (fun av iv wr => ∃ j : Nat, j ≤ m.length ∧ iv = .int .i64 j ∧ RowIs wr 2 av ((m.take j).filter (offE n)).length (edgesC ((m.take j).filter (offE n))) ∧ (∀ b, av.ownBlock = some b → w3.heap.size ≤ b) ∧ Below w3.heap.size w3 wr) (fun _ iv _ => m.length - (intOf iv).toNat)
      case atStart => exact ⟨0, Nat.zero_le _, rfl, RowIs.nil _ _, (fun b e => by cases e), Below.refl _ _⟩
      case round =>
        obtain ⟨j, hj, rfl, hrow, ho, hb⟩ := hrel
        have HBI := Lib.hid hb
        have HOI := Lib.hid ho
        have HRI := Lib.hid hrow
        by_cases hlt : j < m.length
        · have hx : m[j]? = some m[j] := List.getElem?_eq_getElem hlt
          generalize m[j] = e at hx
          obtain ⟨A', cap', e', _, _, h3⟩ := HE3.out.below hb
          injection e' with e1 _ e3
          subst e1 e3
          obtain ⟨a, rfl, ha, k0, k1⟩ := h3 j e hx
          obtain ⟨x, y⟩ := e
          have hi2 : (j : Int) < (m.length : Int) := by omega
          have k1' : wr.cell? ⟨(a.add (j * 2)).block, (a.add (j * 2)).off + 1, none⟩ = some (.int .i64 y) := k1
          have hlen : ((m.take j).filter (offE n)).length ≤ 1000000 := by
            have h1 := List.length_filter_le (offE n) (m.take j)
            rw [List.length_take] at h1
            have := HK.out
            omega
          have hbn := below_new (w := wr) (.cells #[.int .i64 x, .int .i64 y] 40)
          obtain ⟨v1, w9, hr1, hrow1, ht1, ho1⟩ := app_edgeR x y 22 (hrow.below hbn) hlen
          rw [asz] at hr1
          have HFT := Lib.hid (filter_take (offE n) hx)
          have HBN : Hid (Below w3.heap.size w3 (wr.alloc (.cells #[.int .i64 x, .int .i64 y] 40))) := Lib.hid (hb.trans (hbn.mono hb.size))
          have HB9 : Hid (Below w3.heap.size w3 w9) := Lib.hid (HBN.out.trans (ht1.below (fun b e => ho b e) HBN.out.size))
          have HO9 : Hid (∀ b, v1.ownBlock = some b → w3.heap.size ≤ b) := Lib.hid (fun b e => (ho1 b e).elim (fun e => ho b e) (fun e => Nat.le_trans HBN.out.size e))
          have HR9 := Lib.hid hrow1
          have HRN := Lib.hid (hrow.below hbn)
          have HLT := Lib.hid hlt
          clear h3 hx hj k1 hrow ho hb hlen hbn hrow1 ht1 ho1 hlt
          by_cases q1 : x = n
          · have HP : Hid (offE n (x, y) = false) := Lib.hid (by simp [offE, q1])
            subst q1
            go_wp2_with fail
            go_roundw
            case rel => exact ⟨j + 1, HLT.out, by go_num, by rw [HFT.out, HP.out]; simp only [Bool.false_eq_true, if_false, List.append_nil]; exact HRN.out, HOI.out, HBN.out⟩
            case measure => have := HLT.out; simp [intOf]; omega
          · have b1 : (x != n) = true := by simpa using q1
            by_cases q2 : y = n
            · have HP : Hid (offE n (x, y) = false) := Lib.hid (by simp [offE, q2])
              subst q2
              clear q1
              go_wp2_with fail
              go_roundw
              case rel => exact ⟨j + 1, HLT.out, by go_num, by rw [HFT.out, HP.out]; simp only [Bool.false_eq_true, if_false, List.append_nil]; exact HRN.out, HOI.out, HBN.out⟩
              case measure => have := HLT.out; simp [intOf]; omega
            · have b2 : (y != n) = true := by simpa using q2
              have HP : Hid (offE n (x, y) = true) := Lib.hid (by simp [offE, q1, q2])
              clear q1 q2
              go_wp2_with (at_builtin; refine wpList_app_run rfl _ _ _ _ rfl rfl rfl hr1 ?_)
              go_roundw
              case rel => exact ⟨j + 1, HLT.out, by go_num, by rw [HFT.out, HP.out, if_pos rfl]; exact HR9.out, HO9.out, HB9.out⟩
              case measure => have := HLT.out; simp [intOf]; omega
        · obtain rfl : j = m.length := by omega
          rw [List.take_length] at HRI
          have HLM : Hid (∀ e ∈ m.filter (offE n), InR64 e.1 ∧ InR64 e.2) := Lib.hid (fun e he => HM.out e (List.mem_filter.1 he).1)
          generalize m.filter (offE n) = m2 at HRI HLS HLM
          obtain ⟨A6, c6, e6, _, hc6, _⟩ := HRI.out.form
          unfold maxLen at hc6
          have HRE := Lib.hid HRI.out.edges
          have q3 : ((m.length : Int) ≤ (m2.length : Int)) = False := eq_false (by have := HLS.out; omega)
          have HRE2 := HRE
          subst e6
          have hm2 : (m2.length : Int) ≤ 24 := by have := HLS.out; have := HK.out; omega
          clear hlt hj hrow ho hb
          go_wp2_with fail
          go_roundw
          case rel => exact ⟨m2, k + 1, by go_num, by have := HLS.out; have := HK.out; omega, HRE.out, HLM.out, HB3.out.trans (HBI.out.mono HB3.out.size)⟩
          case measure => have := HK.out; have := HLS.out; simp [intOf]; omega
end Go.Proofs.Ytmpjimoefjcmhaa
