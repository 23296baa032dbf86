/- WaitReaches but for awake. -/
import Derived.Test.YtmpjimoefjcmhaaZWaiL
set_option linter.unusedSimpArgs false
set_option linter.unusedVariables false
set_option linter.unnecessarySimpa false
namespace Go.Proofs.Ytmpjimoefjcmhaa
open Go.RowKit
open Go.Maps (Keyed)

theorem nodup_len : ∀ {r m : List Int}, r.Nodup → (∀ y ∈ r, y ∈ m) → r.length ≤ m.length
  | [], _, _, _ => Nat.zero_le _
  | y :: r, m, hn, h => by
    rw [List.nodup_cons] at hn
    have hy := h y (by simp)
    have h1 : ∀ z ∈ r, z ∈ m.erase y := fun z hz => (List.mem_erase_of_ne (fun e => hn.1 (by rw [← e]; exact hz))).2 (h z (by simp [hz]))
    have h2 := nodup_len hn.2 h1
    rw [List.length_erase_of_mem hy] at h2
    have h3 := List.length_pos_of_mem hy
    rw [List.length_cons]
    omega
theorem EIs.take {w : World} {A : Option Addr} {cap : Nat} {l : List (Int × Int)} (h : EIs w (.slice A l.length cap) l) (n : Nat) (hn : n ≤ l.length) : EIs w (.slice A n cap) (l.take n) := by
  obtain ⟨A', cap', e', h1, h2, h3⟩ := h
  injection e' with e1 _ e3
  subst e1 e3
  refine ⟨A, cap, by rw [List.length_take, Nat.min_eq_left hn], by rw [List.length_take]; omega, h2, fun i x hx => ?_⟩
  rw [List.getElem?_take] at hx
  split at hx
  · exact h3 i x hx
  · cases hx
set_option maxRecDepth 100000 in
set_option maxHeartbeats 1000000 in
theorem cut_any {w : World} {v : Value} {l : List (Int × Int)} (h : EIs w v l) : Calls Try.prog 8 #[v] w fun e w' => ∃ v', e = .returned v' ∧ EIs w v' (l.take 24) ∧ w' = w := by
  have HE := Lib.hid h
  obtain ⟨A, cap, rfl, h1, h2, _⟩ := h
  unfold maxLen at h2
  by_cases hl : 24 < l.length
  · have q : (24 : Int) < (l.length : Int) := by omega
    have q2 : 24 ≤ cap := by omega
    have HT := Lib.hid (HE.out.take 24 (by omega))
    go_enter Try.func8, Try.ntmps8
    go_wp2_with fail
    go_ret
    exact ⟨_, rfl, HT.out, rfl⟩
  · have q : ¬ (24 : Int) < (l.length : Int) := by omega
    have HT : Hid (EIs w (.slice A l.length cap) (l.take 24)) := Lib.hid (by rw [List.take_of_length_le (by omega)]; exact HE.out)
    go_enter Try.func8, Try.ntmps8
    go_wp2_with fail
    go_ret
    exact ⟨_, rfl, HT.out, rfl⟩
set_option maxRecDepth 100000 in
set_option maxHeartbeats 2000000 in
theorem law_reaches {w : World} {v : Value} {l0 : List (Int × Int)} {x : Int} (hA : ∀ W : World, Calls Try.prog 18 #[] W fun e W' => e = .returned (.bool true) ∧ Below W.heap.size W W') (h : EIs w v l0) (hr : ∀ e ∈ l0, InR64 e.1 ∧ InR64 e.2) (hx : InR64 x) :
    Calls Try.prog 7 #[v, .int .i64 x] w fun e w' => e = .returned (.bool true) ∧ Below w.heap.size w w' := by
  have HC := Lib.hid (cut_any h)
  have HA := Lib.hid hA
  have HR : Hid (∀ e ∈ l0.take 24, InR64 e.1 ∧ InR64 e.2) := Lib.hid (fun e he => hr e (List.mem_of_mem_take he))
  have hl : (l0.take 24).length ≤ 24 := by rw [List.length_take]; omega
  generalize l0.take 24 = l at HC HR hl
  clear hA h hr
  go_enter Try.func7, Try.ntmps7
  go_wp2_with fail
  refine (HC.out).mono ?_
  rintro e w1 ⟨v1, rfl, he1, rfl⟩
  have HE1 := Lib.hid he1
  have HO := Lib.hid (ours_any he1 (by omega))
  clear he1
  go_wp2_with fail
  refine (HO.out).mono ?_
  rintro e w2 ⟨v2, rfl, he2, hb2⟩
  have HE2 := Lib.hid he2
  have HB2 := Lib.hid hb2
  have HRE := Lib.hid (reach_any2 he2 HR.out (by omega) hx)
  clear he2 hb2
  go_wp2_with fail
  refine (HRE.out).mono ?_
  rintro e w3 ⟨v3, r, rfl, hp3, hv3, ho3, hb3⟩
  have HP := Lib.hid hp3
  have HV3 := Lib.hid hv3
  have HB3 := Lib.hid hb3
  have HRR : Hid (∀ y ∈ r, InR64 y) := Lib.hid (hp3.only InR64 (fun y hy => (HR.out _ hy).2) (fun y z _ hz => (HR.out _ hz).2))
  have HIN : Hid (∀ y ∈ r, ∃ e ∈ l, e.2 = y) := Lib.hid (hp3.only (fun y => ∃ e ∈ l, e.2 = y) (fun y hy => ⟨_, hy, rfl⟩) (fun y z _ hz => ⟨_, hz, rfl⟩))
  obtain ⟨A3, c3, rfl, hc1, hc2, hcc⟩ := hv3.form
  have HCC := Lib.hid hcc
  unfold maxLen at hc2
  have hrl : r.length ≤ 1000000000 := by
    have h1 := nodup_len (m := l.map (·.2)) hp3.one (fun y hy => by
      obtain ⟨e, he, rfl⟩ := HIN.out y hy
      exact List.mem_map.2 ⟨e, he, rfl⟩)
    rw [List.length_map] at h1
    omega
  obtain ⟨A1, c1, rfl, hd1, hd2, _⟩ := id HE1.out
  unfold maxLen at hd2
  clear hp3 hv3 ho3 hb3 hcc
  have hll' : (l.length : Int) ≤ 24 := by omega
  have hrl' : (r.length : Int) ≤ 1000000000 := by omega
  go_wp2_with fail
  go_loopw [25] (fun iv wr => ∃ k : Nat, k ≤ r.length ∧ iv = .int .i64 k ∧ Below w3.heap.size w3 wr) (fun iv _ => r.length - (intOf iv).toNat)
  case atStart => exact ⟨0, Nat.zero_le _, rfl, Below.refl _ _⟩
  case round =>
    obtain ⟨k, hk, rfl, hb⟩ := hrel
    have HB := Lib.hid hb
    by_cases hlt : k < r.length
    · have hx' : r[k]? = some r[k] := List.getElem?_eq_getElem hlt
      have HN := Lib.hid (List.getElem_mem hlt)
      generalize r[k] = n at hx' HN
      obtain ⟨_, _, hcc⟩ := HCC.out
      obtain ⟨g3, rfl, kc⟩ := hcc k (.int .i64 n) (by unfold ints; rw [List.getElem?_map, hx']; rfl)
      have kc' : wr.cell? ⟨g3, k, none⟩ = some (.int .i64 n) := (hb.cell (p := ⟨g3, k, none⟩) (World.block_lt_of_cell? _ _ kc)).trans kc
      have hi : (k : Int) < (r.length : Int) := by omega
      have HLT := Lib.hid hlt
      have HR4 := Lib.hid (reach_any2 (x := n) ((HE2.out.below HB3.out).below hb) HR.out (by omega) (HRR.out n HN.out))
      clear hx' hcc kc hk hb
      go_wp2_with fail
      refine (HR4.out).mono ?_
      rintro e w4 ⟨v4, r4, rfl, hp4, hv4, ho4, hb4⟩
      have HB4 := Lib.hid (HB.out.trans (hb4.mono HB.out.size))
      have HM4 : Hid (∀ y ∈ r4, y ∈ r) := Lib.hid (hp4.only (fun y => y ∈ r) (fun y hy => HP.out.next n y HN.out hy) (fun y z hy hz => HP.out.next y z hy hz))
      have hrl4 : r4.length ≤ 1000000000 := by
        have h1 := nodup_len hp4.one HM4.out
        omega
      have hrl4' : (r4.length : Int) ≤ 1000000000 := by omega
      obtain ⟨A4, c4, rfl, hc41, hc42, hcc4⟩ := hv4.form
      have HC4 := Lib.hid hcc4
      unfold maxLen at hc42
      clear hp4 hv4 ho4 hb4 hcc4
      go_wp2_with fail
      go_loopw [33] (fun iv wx => ∃ j : Nat, j ≤ r4.length ∧ iv = .int .i64 j ∧ Below w4.heap.size w4 wx) (fun iv _ => r4.length - (intOf iv).toNat)
      case atStart => exact ⟨0, Nat.zero_le _, rfl, Below.refl _ _⟩
      case round =>
        obtain ⟨j, hj, rfl, hbx⟩ := hrel
        have HBX := Lib.hid hbx
        by_cases hjl : j < r4.length
        · have hy' : r4[j]? = some r4[j] := List.getElem?_eq_getElem hjl
          have HMR := Lib.hid (HM4.out _ (List.getElem_mem hjl))
          generalize r4[j] = m at hy' HMR
          obtain ⟨_, _, hcc⟩ := HC4.out
          obtain ⟨g4, rfl, kc⟩ := hcc j (.int .i64 m) (by unfold ints; rw [List.getElem?_map, hy']; rfl)
          have kc4 : wr.cell? ⟨g4, j, none⟩ = some (.int .i64 m) := (hbx.cell (p := ⟨g4, j, none⟩) (World.block_lt_of_cell? _ _ kc)).trans kc
          have hi4 : (j : Int) < (r4.length : Int) := by omega
          have HJL := Lib.hid hjl
          have HPL := Lib.hid (place_any (x := m) ((HV3.out.below HB4.out).below hbx) (by omega))
          clear hy' hcc kc hj hbx
          go_wp2_with fail
          refine (HPL.out).mono ?_
          rintro e w5 ⟨pn, rfl, hpn, hpn1, rfl⟩
          have q1 : ¬ pn < 0 := by have := hpn.2 HMR.out; omega
          clear hpn
          go_wp2_with fail
          go_roundw
          case rel => exact ⟨j + 1, HJL.out, by go_num, HBX.out⟩
          case measure => have := HJL.out; simp [intOf]; omega
        · obtain rfl : j = r4.length := by omega
          have HB5 := Lib.hid (HB4.out.trans (hbx.mono HB4.out.size))
          clear hj hjl hbx
          go_wp2_with fail
          go_loopw [44, 11] (fun iv tv wx => ∃ j : Nat, j ≤ l.length ∧ iv = .int .i64 j ∧ tv = .bool ((l.take j).any fun e => e.2 == n) ∧ Below w3.heap.size w3 wx) (fun iv _ _ => l.length - (intOf iv).toNat)
          case atStart => exact ⟨0, Nat.zero_le _, rfl, by simp, HB5.out⟩
          case round =>
            obtain ⟨j, hj, rfl, rfl, hbx⟩ := hrel
            have HBX := Lib.hid hbx
            by_cases hjl : j < l.length
            · have hy' : l[j]? = some l[j] := List.getElem?_eq_getElem hjl
              have HTK : Hid ((l.take (j + 1)).any (fun e => e.2 == n) = ((l.take j).any (fun e => e.2 == n) || (l[j].2 == n))) := Lib.hid (by rw [List.take_succ_eq_append_getElem hjl, List.any_append]; simp)
              generalize l[j] = e at hy' HTK
              obtain ⟨A', cap', e', _, _, h3⟩ := (HE1.out.below (HB2.out.trans (HB3.out.mono HB2.out.size))).below hbx
              injection e' with e1 _ e3
              subst e1 e3
              obtain ⟨a, rfl, ha, k0, k1⟩ := h3 j e hy'
              obtain ⟨p, q⟩ := e
              have hi5 : (j : Int) < (l.length : Int) := by omega
              have k1' : wr.cell? ⟨(a.add (j * 2)).block, (a.add (j * 2)).off + 1, none⟩ = some (.int .i64 q) := k1
              have HB6 := Lib.hid (HBX.out.trans ((below_new (w := wr) (.cells #[.int .i64 p, .int .i64 q] 40)).mono HBX.out.size))
              have HJL := Lib.hid hjl
              replace HTK : Hid ((l.take (j + 1)).any (fun e => e.2 == n) = ((l.take j).any (fun e => e.2 == n) || (q == n))) := HTK
              generalize (l.take j).any (fun e => e.2 == n) = b at HTK
              clear h3 hy' k1 hj hbx
              cases b with
              | true =>
                go_wp2_with fail
                go_roundw
                case rel => exact ⟨j + 1, HJL.out, by go_num, by rw [HTK.out]; simp, HB6.out⟩
                case measure => have := HJL.out; simp [intOf]; omega
              | false =>
                have HTK2 : Hid ((l.take (j + 1)).any (fun e => e.2 == n) = (q == n)) := Lib.hid (by rw [HTK.out]; simp)
                go_wp2_with fail
                go_roundw
                case rel => exact ⟨j + 1, HJL.out, by go_num, by rw [HTK2.out], HB6.out⟩
                case measure => have := HJL.out; simp [intOf]; omega
            · obtain rfl : j = l.length := by omega
              have hany : (l.take l.length).any (fun e => e.2 == n) = true := by
                rw [List.take_length, List.any_eq_true]
                obtain ⟨e, he, hen⟩ := HIN.out n HN.out
                exact ⟨e, he, by simpa using hen⟩
              rw [hany]
              clear hany hj hjl hbx
              go_wp2_with fail
              go_roundw
              case rel => exact ⟨k + 1, HLT.out, by go_num, HBX.out⟩
              case measure => have := HLT.out; simp [intOf]; omega
    · obtain rfl : k = r.length := by omega
      clear hlt hk hb
      go_wp2_with fail
      go_loopw [61] (fun iv wx => ∃ j : Nat, j ≤ l.length ∧ iv = .int .i64 j ∧ Below w3.heap.size w3 wx) (fun iv _ => l.length - (intOf iv).toNat)
      case atStart => exact ⟨0, Nat.zero_le _, rfl, HB.out⟩
      case round =>
        obtain ⟨j, hj, rfl, hbx⟩ := hrel
        have HBX := Lib.hid hbx
        by_cases hjl : j < l.length
        · have hy' : l[j]? = some l[j] := List.getElem?_eq_getElem hjl
          have HMEM := Lib.hid (List.getElem_mem hjl)
          generalize l[j] = e at hy' HMEM
          obtain ⟨A', cap', e', _, _, h3⟩ := (HE1.out.below (HB2.out.trans (HB3.out.mono HB2.out.size))).below hbx
          injection e' with e1 _ e3
          subst e1 e3
          obtain ⟨a, rfl, ha, k0, k1⟩ := h3 j e hy'
          obtain ⟨p, q⟩ := e
          have hi5 : (j : Int) < (l.length : Int) := by omega
          have k1' : wr.cell? ⟨(a.add (j * 2)).block, (a.add (j * 2)).off + 1, none⟩ = some (.int .i64 q) := k1
          have HB6 := Lib.hid (HBX.out.trans ((below_new (w := wr) (.cells #[.int .i64 p, .int .i64 q] 40)).mono HBX.out.size))
          have HJL := Lib.hid hjl
          have HPL := Lib.hid (place_any (x := q) (HV3.out.below HB6.out) (by omega))
          by_cases hpx : p = x
          · have hb5 : (p == x) = true := by rw [hpx]; exact beq_self_eq_true x
            have HQR : Hid (q ∈ r) := Lib.hid (HP.out.first q (by rw [← hpx]; exact HMEM.out))
            clear h3 hy' k1 hj hbx hpx
            go_wp2_with fail
            refine (HPL.out).mono ?_
            rintro e w5 ⟨pn, rfl, hpn, hpn1, rfl⟩
            have q1 : ¬ pn < 0 := by have := hpn.2 HQR.out; omega
            clear hpn
            go_wp2_with fail
            go_roundw
            case rel => exact ⟨j + 1, HJL.out, by go_num, HB6.out⟩
            case measure => have := HJL.out; simp [intOf]; omega
          · have hb5 : (p == x) = false := by rw [beq_eq_false_iff_ne]; exact hpx
            clear h3 hy' k1 hj hbx hpx
            go_wp2_with fail
            go_roundw
            case rel => exact ⟨j + 1, HJL.out, by go_num, HB6.out⟩
            case measure => have := HJL.out; simp [intOf]; omega
        · obtain rfl : j = l.length := by omega
          have HAW := Lib.hid (HA.out wr)
          clear hj hjl hbx
          go_wp2_with fail
          refine (HAW.out).mono ?_
          rintro e w6 ⟨rfl, hb6⟩
          have HB7 := Lib.hid ((HB2.out.trans (HB3.out.mono HB2.out.size)).trans (HBX.out.mono (Nat.le_trans HB2.out.size HB3.out.size)))
          have HB8 := Lib.hid (HB7.out.trans (hb6.mono HB7.out.size))
          clear hb6
          go_wp2_with fail
          go_ret
          exact ⟨rfl, HB8.out⟩
end Go.Proofs.Ytmpjimoefjcmhaa
