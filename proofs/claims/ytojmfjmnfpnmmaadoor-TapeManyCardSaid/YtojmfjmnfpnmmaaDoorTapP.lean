/- The tape: Crash. -/
import Derived.Test.YtojmfjmnfpnmmaaDoorTapO
set_option linter.unusedSimpArgs false
set_option linter.unusedVariables false
set_option linter.unnecessarySimpa false
namespace Go.Proofs.YtojmfjmnfpnmmaaDoor
open Go.RowKit
open Go.Maps (Keyed)

def CrashP (w : World) (T : Tp) (ks : List Int) (x : Ending) (w' : World) : Prop := ∃ (c : Nat) (TC : Tp) (ns : List Int), x = .returned (.pointer (some ⟨c, 0, none⟩)) ∧ TapeAt w' c TC ∧ TC.room = T.room ∧ TC.fused = false ∧ TC.left = 0 ∧ TC.down = false ∧
  ns.Perm (T.L.map (·.n)) ∧ ns.Pairwise (· ≤ ·) ∧ abs TC.L = crA T.L ns ks ns.length ∧ (∀ k ∈ TC.blocks c, w.heap.size ≤ k) ∧ Below w.heap.size w w'
set_option maxRecDepth 100000 in
set_option maxHeartbeats 2000000 in
theorem crash_any {w : World} {t : Nat} {T : Tp} (hT : TapeAt w t T) {kv : Value} {ks : List Int} (hks : IIs w kv ks) (hr : ∀ k ∈ ks, -9223372036854775808 ≤ k ∧ k ≤ 9223372036854775807) : Calls Tryd.prog 25 #[.pointer (some ⟨t, 0, none⟩), kv] w (CrashP w T ks) := by
  have hlt := hT.ltT
  have hroom : w.cell? ⟨t, 1, none⟩ = some (.int .i64 (T.room : Int)) := cell_of hT.head 1
  have hmap : w.cell? ⟨t, 0, none⟩ = some (.map T.m) := cell_of hT.head 0
  have HM := Lib.hid (fun W (hW : Below w.heap.size w W) => (hW.cell (p := ⟨t, 0, none⟩) hlt).trans hmap)
  have hroom2 : (w.alloc (.map #[] 0)).cell? ⟨t, 1, none⟩ = some (.int .i64 (T.room : Int)) := ((below_new (w := w) (.map #[] 0)).cell (p := ⟨t, 1, none⟩) hlt).trans hroom
  have hb0 : Below w.heap.size w ((w.alloc (.map #[] 0)).alloc (.cells #[.map (some w.heap.size), .int .i64 (T.room : Int), .bool false, .int .i64 0, .bool false] 56)) := (below_new _).trans ((below_new _).mono (by rw [asz]; omega))
  have HS := Lib.hid (segs_any (hT.below hb0))
  have HT := Lib.hid hT
  have HKS := Lib.hid hks
  have HR := Lib.hid hr
  obtain ⟨Ak, ck, rfl, hk1, hk2, hk3⟩ := hks
  have HK3 := Lib.hid (fun (i : Nat) (x : Int) (h : ks[i]? = some x) (W : World) (hW : Below w.heap.size w W) => (by
    obtain ⟨a, q1, q2, q3⟩ := hk3 i x h
    exact ⟨a, q1, (hW.cell (p := a.add i) (by rw [add_block]; exact q2)).trans q3⟩ : ∃ a : Addr, Ak = some a ∧ W.cell? (a.add i) = some (.int .i64 x)))
  have hmm := @run_makeMap Tryd.prog
  unfold maxLen at hk2
  clear hT hr hmap hk3 hb0
  go_enter Tryd.func25, Tryd.ntmps25
  go_wp2_with fail
  refine (HS.out).mono ?_
  rintro x W1 ⟨v, ns, rfl, hrow, hp, hpw, hown, hb1⟩
  have HI := Lib.hid (crash_start HT.out ks hrow (fun g hg => by have := hown g hg; rw [asz, asz] at this; omega) (by have := hb1; rw [asz, asz] at this; exact this))
  have HP := Lib.hid hp
  have HPW := Lib.hid hpw
  have HND : Hid ns.Nodup := (hp.nodup_iff).2 HT.out.nodup
  have hns : ns.length ≤ 64 := by
    have h2 := hp.length_eq
    rw [List.length_map] at h2
    have := HT.out.few
    omega
  obtain ⟨Av, cv, rfl, hv1, hv2, _, _, hv5⟩ := hrow.form
  unfold maxLen at hv2
  clear hrow hp hpw hown hb1 hv5
  go_wp2_with fail
  go_loopw [22] (fun i wr => ∃ (k : Nat) (TC : Tp), k ≤ ns.length ∧ i = .int .i64 k ∧ CrInv w t T (.slice Av ns.length cv) ns ks k wr TC) (fun i _ => ns.length - (intOf i).toNat)
  case atStart => exact ⟨0, _, by omega, rfl, HI.out⟩
  case round =>
    obtain ⟨k, TC, hk, rfl, hinv⟩ := hrel
    have HV := Lib.hid hinv
    clear hinv HI
    by_cases hlt2 : k < ns.length
    · have hnk : ns[k]? = some ns[k] := List.getElem?_eq_getElem hlt2
      obtain ⟨g, rfl, hcg⟩ : ∃ g, Av = some ⟨g, 0, none⟩ ∧ wr.cell? ⟨g, k, none⟩ = some (.int .i64 ns[k]) := by
        obtain ⟨A2, c2, e2, _, _, _, _, h6⟩ := HV.out.row.form
        injection e2 with e3 e4 e5
        subst e3
        exact h6 k _ (by rw [List.getElem?_map, hnk]; rfl)
      obtain ⟨e, he, hen⟩ : ∃ e ∈ T.L, e.n = ns[k] := by
        have := (HP.out.mem_iff (a := ns[k])).1 (List.getElem_mem hlt2)
        simpa using this
      obtain ⟨j, hj⟩ := List.getElem?_of_mem he
      have HTW := Lib.hid (HT.out.below HV.out.below)
      have hmw := HM.out wr HV.out.below
      have hnB : Hid (nameB ns[k] = true) := by rw [← hen]; exact HT.out.names e he
      have HJ := Lib.hid hj
      have HEN := Lib.hid hen
      have HE := Lib.hid he
      have hKI := Lib.hid (key_int hnB.out)
      have hkd : kept T.L (ns[k]?.getD 0) (ks[k]?.getD 0) = keptE e (ks[k]?.getD 0) := by rw [hnk, Option.getD_some, ← hen]; exact kept_at hj HT.out.apart _
      have HKD := Lib.hid hkd
      have hrk : -9223372036854775808 ≤ ks[k]?.getD 0 ∧ ks[k]?.getD 0 ≤ 9223372036854775807 := by
        cases h : ks[k]? with
        | none => simp
        | some x => exact HR.out x (List.mem_of_getElem? h)
      have HL := Lib.hid (lasting_any (HTW.out.segs e he) (Nat.le_trans (used_mem he) HT.out.used) (ks[k]?.getD 0) hrk.1 hrk.2)
      have HWS := Lib.hid HV.out.below.size
      have hcm : wr.cell? ⟨w.heap.size + 1, 0, none⟩ = some (.map (some w.heap.size)) := by rw [cell_of HV.out.tape.head 0, ← HV.out.m]; rfl
      have hcl := HV.out.tape.ltT
      have HCM := Lib.hid (fun W (hW : Below wr.heap.size wr W) => (hW.cell (p := ⟨w.heap.size + 1, 0, none⟩) hcl).trans hcm)
      have HMA : Hid (MapIs Tryd.prog 3 wr w.heap.size (TC.L.map Ent.me) TC.clock) := by have := HV.out.tape.map; rw [HV.out.m] at this; exact this
      have HMISS : Hid (∀ x ∈ TC.L.map Ent.me, x.key ≠ .int .i64 ns[k]) := by
        refine me_miss fun x hx hxn => ?_
        have h1 : (x.n, x.b, x.s) ∈ abs TC.L := List.mem_map.2 ⟨x, hx, rfl⟩
        rw [HV.out.abs] at h1
        exact crA_names HND.out hlt2 _ h1 hxn
      have hml : w.heap.size < wr.heap.size := MapIs.lt HMA.out
      have HNN := Lib.hid (nameB_iff.1 hnB.out)
      by_cases hkl : k < ks.length
      · have hkk : ks[k]? = some ks[k] := List.getElem?_eq_getElem hkl
        obtain ⟨ak, rfl, hck⟩ := HK3.out k _ hkk wr HV.out.below
        have HKK : Hid (ks[k]?.getD 0 = ks[k]) := by show _ = _; rw [hkk, Option.getD_some]
        rw [hkk, Option.getD_some] at HL HKD
        replace hkl : (k : Int) < (ks.length : Int) := by omega
        clear hj hen he hkd hrk hnk hkk hcm hcl hmm
        go_wp2_with (at_lookup; refine wpList_tape_hit _ rfl _ _ rfl HTW.out.map rfl ns[k] rfl hnB.out HJ.out HEN.out ?_)
        refine (HL.out).mono ?_
        rintro x W2 ⟨v2, rfl, ho2, hb2⟩
        have HB2 := Lib.hid hb2
        have HCW := HCM.out W2 hb2
        have HMA2 : Hid (∀ o, MapIs Tryd.prog 3 (W2.alloc o) w.heap.size (TC.L.map Ent.me) TC.clock) := fun o => (HMA.out.keep (hb2.block _ hml)).keep (Below.heap_alloc _ _ _ (Nat.lt_of_lt_of_le hml hb2.size))
        have hin := hb2.size
        unfold keptE at HKD
        generalize e.b.take (lastN e.b e.s ks[k]) = b at HKD ho2
        have HO2 := Lib.hid ho2
        have hb20 : b.length ≤ 9223372036854775807 := by
          rcases ho2 with ⟨_, rfl⟩ | ⟨g, c, _, h⟩
          · simp
          · have h1 := h.le; have h2 := h.max; unfold maxLen at h2; omega
        obtain ⟨A2, c2, rfl, _, _, h23⟩ := ho2.bis
        clear h23 ho2 hb2
        by_cases hb : b.length = 0
        · rw [if_pos hb] at HKD
          replace hb : ¬ ((0 : Int) < (b.length : Int)) := by omega
          have HFIN := Lib.hid ((HV.out.keep HB2.out).skip (by rw [HKK.out]; exact HKD.out))
          clear HCW hb20
          go_wp2_with fail
          go_roundw
          case rel => exact ⟨k + 1, TC, by omega, by go_num, HFIN.out⟩
          case measure => simp [intOf]; omega
        · rw [if_neg hb] at HKD
          replace hb : (0 : Int) < (b.length : Int) := by omega
          go_wp2_with (at_mapUpdate; refine wpList_put_miss _ rfl _ _ _ 54 rfl keyed Tryd.underlying54 (HMA2.out _) rfl _ _ rfl hKI.out _ rfl HMISS.out ?_; intro w2 hw2 hM2)
          have HFIN := Lib.hid (HV.out.put HT.out HP.out hlt2 HNN.out.1 HNN.out.2 (by rw [HKK.out, ← HEN.out]; exact HKD.out) HB2.out HO2.out hw2 hM2)
          have HW2 := Lib.hid hw2
          clear hw2 hM2 HCW
          go_wp2
          go_roundw
          case rel =>
            have e2 := HW2.out
            subst e2
            exact ⟨k + 1, _, by omega, by go_num, HFIN.out⟩
          case measure => simp [intOf]; omega
      · have hkk : ks[k]? = none := List.getElem?_eq_none (by omega)
        have HKK : Hid (ks[k]?.getD 0 = 0) := by show _ = _; rw [hkk, Option.getD_none]
        rw [hkk, Option.getD_none] at HL
        replace hkl : ¬ (k : Int) < (ks.length : Int) := by omega
        clear hj hen he hkd hrk hnk hcm hcl hmm
        rw [hkk, Option.getD_none] at HKD
        clear hkk
        go_wp2_with (at_lookup; refine wpList_tape_hit _ rfl _ _ rfl HTW.out.map rfl ns[k] rfl hnB.out HJ.out HEN.out ?_)
        refine (HL.out).mono ?_
        rintro x W2 ⟨v2, rfl, ho2, hb2⟩
        have HB2 := Lib.hid hb2
        have HCW := HCM.out W2 hb2
        have HMA2 : Hid (∀ o, MapIs Tryd.prog 3 (W2.alloc o) w.heap.size (TC.L.map Ent.me) TC.clock) := fun o => (HMA.out.keep (hb2.block _ hml)).keep (Below.heap_alloc _ _ _ (Nat.lt_of_lt_of_le hml hb2.size))
        have hin := hb2.size
        unfold keptE at HKD
        generalize e.b.take (lastN e.b e.s 0) = b at HKD ho2
        have HO2 := Lib.hid ho2
        have hb20 : b.length ≤ 9223372036854775807 := by
          rcases ho2 with ⟨_, rfl⟩ | ⟨g, c, _, h⟩
          · simp
          · have h1 := h.le; have h2 := h.max; unfold maxLen at h2; omega
        obtain ⟨A2, c2, rfl, _, _, h23⟩ := ho2.bis
        clear h23 ho2 hb2
        by_cases hb : b.length = 0
        · rw [if_pos hb] at HKD
          replace hb : ¬ ((0 : Int) < (b.length : Int)) := by omega
          have HFIN := Lib.hid ((HV.out.keep HB2.out).skip (by rw [HKK.out]; exact HKD.out))
          clear HCW hb20
          go_wp2_with fail
          go_roundw
          case rel => exact ⟨k + 1, TC, by omega, by go_num, HFIN.out⟩
          case measure => simp [intOf]; omega
        · rw [if_neg hb] at HKD
          replace hb : (0 : Int) < (b.length : Int) := by omega
          go_wp2_with (at_mapUpdate; refine wpList_put_miss _ rfl _ _ _ 54 rfl keyed Tryd.underlying54 (HMA2.out _) rfl _ _ rfl hKI.out _ rfl HMISS.out ?_; intro w2 hw2 hM2)
          have HFIN := Lib.hid (HV.out.put HT.out HP.out hlt2 HNN.out.1 HNN.out.2 (by rw [HKK.out, ← HEN.out]; exact HKD.out) HB2.out HO2.out hw2 hM2)
          have HW2 := Lib.hid hw2
          clear hw2 hM2 HCW
          go_wp2
          go_roundw
          case rel =>
            have e2 := HW2.out
            subst e2
            exact ⟨k + 1, _, by omega, by go_num, HFIN.out⟩
          case measure => simp [intOf]; omega
    · obtain rfl : k = ns.length := by omega
      go_wp2
      go_ret
      exact ⟨_, TC, ns, rfl, HV.out.tape, HV.out.room, HV.out.fused, HV.out.left, HV.out.down, HP.out, HPW.out, HV.out.abs, HV.out.new, HV.out.below⟩
end Go.Proofs.YtojmfjmnfpnmmaaDoor
