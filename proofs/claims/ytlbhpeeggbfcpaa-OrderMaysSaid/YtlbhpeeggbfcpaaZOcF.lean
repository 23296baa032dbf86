/- order: the document's own May. -/
import Derived.Test.YtlbhpeeggbfcpaaZOrdU
set_option linter.unusedSimpArgs false
set_option linter.unusedVariables false
set_option linter.unnecessarySimpa false
namespace Go.Proofs.Ytlbhpeeggbfcpaa
open Go.RowKit

set_option maxRecDepth 100000 in
set_option maxHeartbeats 4000000 in
theorem hasS_any {w : World} {v : Value} {l : List Int} {n : Int} (h : SIs w v l) (hl : l.length ≤ 1000) : Calls Try.prog 22 #[v, .int .i64 n] w fun e w' => e = .returned (.bool (decide (n ∈ l))) ∧ Below w.heap.size w w' := by
  obtain ⟨A, cap, rfl, h1, h2, _⟩ := id h
  unfold maxLen at h2
  have hlI : (l.length : Int) ≤ 1000 := by omega
  have HH := Lib.hid h
  clear h
  go_enter Try.func22, Try.ntmps22
  go_wp2_with fail
  go_loopw [9] (fun iv wr => ∃ k : Nat, k ≤ l.length ∧ iv = .int .i64 k ∧ n ∉ l.take k ∧ Below w.heap.size w wr) (fun iv _ => l.length - (intOf iv).toNat)
  case atStart => exact ⟨0, Nat.zero_le _, rfl, by simp, Below.refl _ _⟩
  case round =>
    obtain ⟨k, hk, rfl, hno, hb⟩ := hrel
    by_cases hlt : k < l.length
    · have hx : l[k]? = some l[k] := List.getElem?_eq_getElem hlt
      generalize l[k] = x at hx
      obtain ⟨_, _, e', _, _, hc⟩ := HH.out.below hb
      injection e' with e1 _ e3
      subst e1 e3
      obtain ⟨g, rfl, _, k0⟩ := hc k x hx
      have hi : (k : Int) < (l.length : Int) := by omega
      have htk : l.take (k + 1) = l.take k ++ [x] := by rw [List.take_add_one, hx]; rfl
      have HB := Lib.hid hb
      have HLT := Lib.hid hlt
      by_cases hxn : x = n
      · have hb1 : (x == n) = true := by rw [hxn]; exact beq_self_eq_true _
        have HM : Hid (decide (n ∈ l) = true) := Lib.hid (decide_eq_true (hxn ▸ List.mem_of_getElem? hx))
        clear hxn hno hb hlt hk hx htk hc
        go_wp2_with fail
        refine bodyPost_ret (v := .bool true) (by simp [results, Try.results22, go_sem]) rfl ⟨by rw [HM.out], HB.out⟩
      · have hb1 : (x == n) = false := by rw [beq_eq_false_iff_ne]; exact hxn
        have HM : Hid (n ∉ l.take (k + 1)) := Lib.hid (by rw [htk, List.mem_append, List.mem_singleton]; exact fun e => e.elim hno (fun e => hxn e.symm))
        clear hxn hno hb hlt hk hx htk hc
        go_wp2_with fail
        go_roundw
        case rel => exact ⟨k + 1, HLT.out, by go_num, HM.out, HB.out⟩
        case measure => have := HLT.out; simp [intOf]; omega
    · obtain rfl : k = l.length := by omega
      rw [List.take_length] at hno
      have HB := Lib.hid hb
      have HM : Hid (decide (n ∈ l) = false) := Lib.hid (decide_eq_false hno)
      clear hno hb hlt hk
      go_wp2_with fail
      refine bodyPost_ret (v := .bool false) (by simp [results, Try.results22, go_sem]) rfl ⟨by rw [HM.out], HB.out⟩
theorem may_step {g site : Int} {l : Gr} {k : Nat} {u : Int × List Int} (hx : l[k]? = some u) (h : ∀ v ∈ l.take k, v.1 < g → site ∉ v.2) (hu : u.1 < g → site ∉ u.2) : ∀ v ∈ l.take (k + 1), v.1 < g → site ∉ v.2 := by
  rw [List.take_add_one, hx]
  intro v hv
  rcases List.mem_append.1 hv with hv | hv
  · exact h v hv
  · have : v = u := by simpa using hv
    rw [this]
    exact hu
set_option maxRecDepth 100000 in
set_option maxHeartbeats 4000000 in
theorem RMay_any {w : World} {v : Value} {l : Gr} {g site : Int} (h : UIs w v l) (hl : l.length ≤ 1000) (hs : ∀ u ∈ l, u.2.length ≤ 1000) : Calls Try.prog 8 #[.int .i64 g, .int .i64 site, v] w fun e w' => e = .returned (.bool (mayP g site l)) ∧ Below w.heap.size w w' := by
  obtain ⟨A, cap, rfl, h1, h2, _⟩ := id h
  unfold maxLen at h2
  have hlI : (l.length : Int) ≤ 1000 := by omega
  have HH := Lib.hid h
  have HS := Lib.hid hs
  clear h hs
  go_enter Try.func8, Try.ntmps8
  obtain ⟨mb, hmb⟩ : ∃ mb, mayP g site l = mb := ⟨_, rfl⟩
  rw [hmb]
  have HMB := Lib.hid hmb
  clear hmb
  go_wp2_with fail
  go_loopw [11] (fun iv wr => ∃ k : Nat, k ≤ l.length ∧ iv = .int .i64 k ∧ (∀ v ∈ l.take k, v.1 < g → site ∉ v.2) ∧ Below w.heap.size w wr) (fun iv _ => l.length - (intOf iv).toNat)
  case atStart => exact ⟨0, Nat.zero_le _, rfl, (fun v hv => by simp at hv), Below.refl _ _⟩
  case round =>
    obtain ⟨k, hk, rfl, hno, hb⟩ := hrel
    by_cases hlt : k < l.length
    · have hx : l[k]? = some l[k] := List.getElem?_eq_getElem hlt
      have hs6 := HS.out _ (List.getElem_mem hlt)
      generalize l[k] = u at hx hs6
      obtain ⟨_, _, e', _, _, h4⟩ := HH.out.below hb
      injection e' with e1 _ e3
      subst e1 e3
      obtain ⟨a, sv, rfl, ha, k0', k1', hsv⟩ := h4 k u hx
      obtain ⟨x, sl⟩ := u
      have hs6 : sl.length ≤ 1000 := hs6
      obtain ⟨B, scap, rfl, hs1, hs2, _⟩ := id hsv
      have k0 : wr.cell? (a.add (k * 2)) = some (.int .i64 x) := k0'
      have k1 : wr.cell? ⟨(a.add (k * 2)).block, (a.add (k * 2)).off + 1, none⟩ = some (.slice B sl.length scap) := k1'
      have hi : (k : Int) < (l.length : Int) := by omega
      have hbn := below_new (w := wr) (.cells #[.int .i64 x, .slice B sl.length scap] 32)
      have HHA := Lib.hid (hasS_any (n := site) (hsv.below hbn) hs6)
      have HB := Lib.hid (hb.trans (hbn.mono hb.size))
      have HLT := Lib.hid hlt
      have HX := Lib.hid hx
      have HNO := Lib.hid hno
      clear h4 k0' k1' hsv hx hno hb hk hlt hbn hs1 hs2
      by_cases hg : x < g
      · by_cases hin : site ∈ sl
        · have hd : decide (site ∈ sl) = true := decide_eq_true hin
          rw [hd] at HHA
          have HM : Hid (mb = false) := Lib.hid (by
            cases mb with
            | false => rfl
            | true => exact absurd hin (may_iff.1 HMB.out _ (List.mem_of_getElem? HX.out) hg))
          clear hd hin
          go_wp2_with fail
          refine (HHA.out).mono ?_
          rintro e w5 ⟨rfl, hb5⟩
          have HB5 := Lib.hid (HB.out.trans (hb5.mono HB.out.size))
          clear hb5 HHA
          go_wp2_with fail
          refine bodyPost_ret (v := .bool false) (by simp [results, Try.results8, go_sem]) rfl ⟨by rw [HM.out], HB5.out⟩
        · have hd : decide (site ∈ sl) = false := decide_eq_false hin
          rw [hd] at HHA
          have HST := Lib.hid (may_step HX.out HNO.out (fun _ => hin))
          clear hd hin
          go_wp2_with fail
          refine (HHA.out).mono ?_
          rintro e w5 ⟨rfl, hb5⟩
          have HB5 := Lib.hid (HB.out.trans (hb5.mono HB.out.size))
          clear hb5 HHA
          go_wp2_with fail
          go_roundw
          case rel => exact ⟨k + 1, HLT.out, by go_num, HST.out, HB5.out⟩
          case measure => have := HLT.out; simp [intOf]; omega
      · have HST := Lib.hid (may_step HX.out HNO.out (fun e => absurd e hg))
        clear HHA
        go_wp2_with fail
        go_roundw
        case rel => exact ⟨k + 1, HLT.out, by go_num, HST.out, HB.out⟩
        case measure => have := HLT.out; simp [intOf]; omega
    · obtain rfl : k = l.length := by omega
      rw [List.take_length] at hno
      have HM : Hid (mb = true) := Lib.hid (HMB.out.symm.trans (may_iff.2 hno))
      have HB := Lib.hid hb
      clear hno hb hlt hk
      go_wp2_with fail
      refine bodyPost_ret (v := .bool true) (by simp [results, Try.results8, go_sem]) rfl ⟨by rw [HM.out], HB.out⟩
end Go.Proofs.Ytlbhpeeggbfcpaa
