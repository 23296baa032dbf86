/- order: the law OrderMays. -/
import Derived.Test.YtlbhpeeggbfcpaaZOcG
import Derived.Test.YtlbhpeeggbfcpaaZOrdT
import Derived.Test.YtlbhpeeggbfcpaaZWie
set_option linter.unusedSimpArgs false
set_option linter.unusedVariables false
set_option linter.unnecessarySimpa false
namespace Go.Proofs.Ytlbhpeeggbfcpaa
open Go.RowKit

theorem stepF_nil (site : Int) (o : Option Int) (x : Int) : stepF site o (x, []) = o := by unfold stepF; simp
def nextF (x : Int) : Option Int → Option Int
  | none => some x
  | some f => if x < f then some x else some f
theorem stepF_more (site : Int) (o : Option Int) (x : Int) (m : List Int) (s : Int) : stepF site o (x, m ++ [s]) = if s = site then nextF x (stepF site o (x, m)) else stepF site o (x, m) := by
  unfold stepF nextF
  by_cases hs : s = site
  · subst hs
    rw [if_pos rfl]
    by_cases hm : s ∈ m
    · cases o with
      | none => simp [hm]
      | some f => by_cases hx : x < f <;> simp [hm, hx]
    · cases o with
      | none => simp [hm]
      | some f => by_cases hx : x < f <;> simp [hm, hx]
  · rw [if_neg hs]
    have : ¬ site = s := fun e => hs e.symm
    simp [this]
set_option maxRecDepth 100000 in
set_option maxHeartbeats 4000000 in
theorem law_omays {w : World} {v : Value} {T : Gr} {g site : Int} (h : UIs w v T) (hn : ∀ u ∈ T, InR64 u.1 ∧ ∀ s ∈ u.2, InR64 s) : Calls Try.prog 3 #[v, .int .i64 g, .int .i64 site] w fun e w' => e = .returned (.bool true) ∧ Below w.heap.size w w' := by
  obtain ⟨A, cap, rfl, h1, h2, _⟩ := id h
  unfold maxLen at h2
  have HTK := Lib.hid (users_any h)
  have hL10 : (cutU T).length ≤ 10 := by unfold cutU; rw [List.length_map, List.length_take]; omega
  have HL6 : Hid (∀ u ∈ cutU T, u.2.length ≤ 6 ∧ InR64 u.1 ∧ ∀ s ∈ u.2, InR64 s) := Lib.hid (fun u hu => by
    unfold cutU at hu
    obtain ⟨x, hx, rfl⟩ := List.mem_map.1 hu
    have h5 := hn x (List.mem_of_mem_take hx)
    refine ⟨by show (x.2.take 6).length ≤ 6; rw [List.length_take]; omega, h5.1, fun s hs => h5.2 s (List.mem_of_mem_take hs)⟩)
  clear h hn
  generalize cutU T = L at *
  have HL10 := Lib.hid hL10
  have hLI : (L.length : Int) ≤ 10 := by omega
  clear hL10
  obtain ⟨mb, hmb⟩ : ∃ mb, mayP g site L = mb := ⟨_, rfl⟩
  obtain ⟨fo, hfo⟩ : ∃ fo, firstP site L = fo := ⟨_, rfl⟩
  have HMB := Lib.hid hmb
  have HFO := Lib.hid hfo
  clear hmb hfo
  go_enter Try.func3, Try.ntmps3
  go_wp2_with fail
  refine (HTK.out).mono ?_
  rintro e w1 ⟨va, vb, rfl, ha, hb, hb1⟩
  obtain ⟨Aa, ca, rfl, _⟩ := id ha
  obtain ⟨Ab, cb, rfl, _⟩ := id hb
  have HB1 := Lib.hid hb1
  have HMA : Hid (∀ (wx : World) (x s : Int), Below w1.heap.size w1 wx → Calls Try.prog 7 #[.int .i64 x, .int .i64 s, .slice Aa L.length ca] wx fun e w' => e = .returned (.bool (mayP x s L)) ∧ Below wx.heap.size wx w') := Lib.hid (fun wx x s hbx => May_any (ha.below hbx) (by have := HL10.out; omega) (fun u hu => by have := (HL6.out u hu).1; omega))
  have HRM := Lib.hid (fun (wx : World) (hbx : Below w1.heap.size w1 wx) => RMay_any (g := g) (site := site) (hb.below hbx) (by have := HL10.out; omega) (fun u hu => by have := (HL6.out u hu).1; omega))
  have HFI := Lib.hid (fun (wx : World) (hbx : Below w1.heap.size w1 wx) => First_any (site := site) (ha.below hbx) (by have := HL10.out; omega) (fun u hu => by have := (HL6.out u hu).1; omega))
  have HWA := Lib.hid (fun (wx : World) (hbx : Below w1.heap.size w1 wx) => Waits_any (ha.below hbx) (by have := HL10.out; omega) (fun u hu => by have := (HL6.out u hu).1; omega) (fun u hu => (HL6.out u hu).2.1) (fun u hu => (HL6.out u hu).2.2))
  have HRW := Lib.hid (fun (wx : World) (hbx : Below w1.heap.size w1 wx) => RWaits_any (hb.below hbx) HL10.out (fun u hu => (HL6.out u hu).1))
  have HBU := Lib.hid hb
  rw [HMB.out] at HRM
  rw [HFO.out] at HFI
  have HM1 := Lib.hid (HMA.out w1 g site (Below.refl _ _))
  rw [HMB.out] at HM1
  clear ha hb hb1 HTK
  go_wp2_with fail
  refine (HM1.out).mono ?_
  rintro e w2 ⟨rfl, hb2⟩
  have HM2 := Lib.hid (HRM.out w2 hb2)
  have HB2 := Lib.hid hb2
  clear hb2 HM1 HRM
  go_wp2_with fail
  refine (HM2.out).mono ?_
  rintro e w3 ⟨rfl, hb3⟩
  have HB3 := Lib.hid (HB2.out.trans (hb3.mono HB2.out.size))
  have HF3 := Lib.hid (HFI.out w3 (HB2.out.trans (hb3.mono HB2.out.size)))
  clear hb3 HM2 HFI
  have hmm : (mb != mb) = false := by simp
  go_wp2_with fail
  refine (HF3.out).mono ?_
  rintro e w4 ⟨rfl, hb4⟩
  have HB4 := Lib.hid (HB3.out.trans (hb4.mono HB3.out.size))
  clear hb4 HF3
  go_wp2_with fail
  go_loopw [11, 12, 49] (fun lv fv iv wr => ∃ (k : Nat) (o : Option Int), k ≤ L.length ∧ iv = .int .i64 k ∧ lv = .int .i64 (firV o) ∧ fv = .bool (firB o) ∧ o = firstP site (L.take k) ∧ Below w1.heap.size w1 wr) (fun _ _ iv _ => L.length - (intOf iv).toNat)
  case atStart => exact ⟨0, none, Nat.zero_le _, rfl, rfl, rfl, rfl, HB4.out⟩
  case round =>
    obtain ⟨k, o, hk, rfl, rfl, rfl, ho, hb⟩ := hrel
    by_cases hlt : k < L.length
    · have hx : L[k]? = some L[k] := List.getElem?_eq_getElem hlt
      have hs6 := (HL6.out _ (List.getElem_mem hlt)).1
      generalize L[k] = u at hx hs6
      obtain ⟨_, _, e', _, _, h4⟩ := HBU.out.below hb
      injection e' with e1 _ e3
      subst e1 e3
      obtain ⟨aa, sv, rfl, ha, p0, p1', hsv⟩ := h4 k u hx
      obtain ⟨x, sl⟩ := u
      have hs6 : sl.length ≤ 6 := hs6
      obtain ⟨Bu, cu, rfl, hs1, hs2, _⟩ := id hsv
      have p1 : wr.cell? ⟨(aa.add (k * 2)).block, (aa.add (k * 2)).off + 1, none⟩ = some (.slice Bu sl.length cu) := p1'
      have hai : (k : Int) < (L.length : Int) := by omega
      have hsI : (sl.length : Int) ≤ 6 := by omega
      have hbn := below_new (w := wr) (.cells #[.int .i64 x, .slice Bu sl.length cu] 32)
      have hat := alloc_at wr (.cells #[.int .i64 x, .slice Bu sl.length cu] 32)
      have hzz := asz wr (.cells #[.int .i64 x, .slice Bu sl.length cu] 32)
      have HVa := Lib.hid (hsv.below hbn)
      have HBa := Lib.hid (hb.trans (hbn.mono hb.size))
      have HLa := Lib.hid hlt
      have HST : Hid (firstP site (L.take (k + 1)) = stepF site o (x, sl)) := Lib.hid (by rw [ho]; exact first_take site hx)
      have HATa := Lib.hid hat
      have HZa := Lib.hid hzz
      clear h4 p1' hsv hx hb hk hlt hbn hs1 hs2 ho hat hzz
      go_wp2_with fail
      generalize wr.alloc (.cells #[.int .i64 x, .slice Bu sl.length cu] 32) = WU at *
      generalize wr.heap.size = zu at *
      clear p0 p1
      go_loopw [11, 12, 56] (fun lv fv iv wx => ∃ (c : Nat) (q : Option Int), c ≤ sl.length ∧ iv = .int .i64 c ∧ lv = .int .i64 (firV q) ∧ fv = .bool (firB q) ∧ q = stepF site o (x, sl.take c) ∧ Below WU.heap.size WU wx) (fun _ _ iv _ => sl.length - (intOf iv).toNat)
      case atStart => exact ⟨0, o, Nat.zero_le _, rfl, rfl, rfl, by rw [List.take_zero, stepF_nil], Below.refl _ _⟩
      case round =>
        obtain ⟨c, q, hcl, rfl, rfl, rfl, hq, hb⟩ := hrel
        by_cases hlt : c < sl.length
        · have hx : sl[c]? = some sl[c] := List.getElem?_eq_getElem hlt
          generalize sl[c] = s at hx
          obtain ⟨_, _, e', _, _, h4⟩ := HVa.out.below hb
          injection e' with e1 _ e3
          subst e1 e3
          obtain ⟨sa, rfl, _, p0⟩ := h4 c s hx
          have hci : (c : Int) < (sl.length : Int) := by omega
          have hbu := (hb.block zu (by have := HZa.out; omega)).trans HATa.out
          have d0 := cell_of hbu 0
          simp at d0
          have hnext : stepF site o (x, sl.take (c + 1)) = if s = site then nextF x q else q := by
            rw [show sl.take (c + 1) = sl.take c ++ [s] by rw [List.take_add_one, hx]; rfl, stepF_more, ← hq]
          have HBc := Lib.hid hb
          have HLc := Lib.hid hlt
          clear h4 hx hb hcl hlt hbu hq
          by_cases hss : s = site
          · have b1 : (s == site) = true := by rw [hss]; exact beq_self_eq_true _
            rw [if_pos hss] at hnext
            clear hss
            cases q with
            | none =>
              have HN := Lib.hid hnext
              clear hnext
              dsimp only [firV, firB, Option.getD, Option.isSome]
              go_wp2_with fail
              go_roundw
              case rel => exact ⟨c + 1, some x, HLc.out, by go_num, rfl, rfl, HN.out.symm, HBc.out⟩
              case measure => have := HLc.out; simp [intOf]; omega
            | some f =>
              by_cases hxf : x < f
              · have HN : Hid (stepF site o (x, sl.take (c + 1)) = some x) := Lib.hid (by rw [hnext]; simp [nextF, hxf])
                clear hnext
                dsimp only [firV, firB, Option.getD, Option.isSome]
                go_wp2_with fail
                go_roundw
                case rel => exact ⟨c + 1, some x, HLc.out, by go_num, rfl, rfl, HN.out.symm, HBc.out⟩
                case measure => have := HLc.out; simp [intOf]; omega
              · have HN : Hid (stepF site o (x, sl.take (c + 1)) = some f) := Lib.hid (by rw [hnext]; simp [nextF, hxf])
                clear hnext
                dsimp only [firV, firB, Option.getD, Option.isSome]
                go_wp2_with fail
                go_roundw
                case rel => exact ⟨c + 1, some f, HLc.out, by go_num, rfl, rfl, HN.out.symm, HBc.out⟩
                case measure => have := HLc.out; simp [intOf]; omega
          · have b1 : (s == site) = false := by rw [beq_eq_false_iff_ne]; exact hss
            rw [if_neg hss] at hnext
            have HN := Lib.hid hnext
            clear hss hnext
            go_wp2_with fail
            go_roundw
            case rel => exact ⟨c + 1, q, HLc.out, by go_num, rfl, rfl, HN.out.symm, HBc.out⟩
            case measure => have := HLc.out; simp [intOf]; omega
        · obtain rfl : c = sl.length := by omega
          rw [List.take_length, ← HST.out] at hq
          have HQ := Lib.hid hq
          have HBF := Lib.hid (HBa.out.trans (hb.mono HBa.out.size))
          clear hb hcl hlt hq
          go_wp2_with fail
          go_roundw
          case rel => exact ⟨k + 1, q, HLa.out, by go_num, rfl, rfl, HQ.out, HBF.out⟩
          case measure => have := HLa.out; simp [intOf]; omega
    · obtain rfl : k = L.length := by omega
      rw [List.take_length, HFO.out] at ho
      subst ho
      have HB5 := Lib.hid hb
      have HW5 := Lib.hid (HWA.out wr hb)
      clear hb hlt hk
      have hf1 : (firB o != firB o) = false := by simp
      have hf2 : (firV o != firV o) = false := by simp
      have hWl : (waitsP L).length ≤ 100 := by
        have h1 := (allU_holds L).2.2
        have h2 := HL10.out
        have h3 := oF_len (l := L) (al := allU L) (by omega) (allU L).length
        have hw : oF L (allU L) (allU L).length = waitsP L := by unfold oF waitsP; rw [List.take_length]
        rw [hw] at h3
        omega
      have hWn : ∀ e ∈ waitsP L, InR64 e.1 ∧ InR64 e.2 := fun e he => by
        obtain ⟨q1, q2⟩ := waits_num he
        obtain ⟨u, hu, e1⟩ := ((allU_holds L).2.1 _).1 q1
        obtain ⟨v, hv, e2⟩ := ((allU_holds L).2.1 _).1 q2
        rw [e1, e2]
        exact ⟨(HL6.out u hu).2.1, (HL6.out v hv).2.1⟩
      have HWD : Hid (∀ c, CircP (waitsP L) c → c = []) := Lib.hid (fun c hc => no_circ hc (fun e he => waits_down he))
      have HWN := Lib.hid hWn
      generalize waitsP L = M at *
      have HML := Lib.hid hWl
      have hMI : (M.length : Int) ≤ 100 := by omega
      clear hWl hWn
      go_wp2_with fail
      refine (HW5.out).mono ?_
      rintro e w6 ⟨vw, rfl, hvw, hb6⟩
      obtain ⟨Aw, cw, rfl, _⟩ := id hvw
      have HB6 := Lib.hid (HB5.out.trans (hb6.mono HB5.out.size))
      have HR6 := Lib.hid (HRW.out w6 (HB5.out.trans (hb6.mono HB5.out.size)))
      have HVW := Lib.hid hvw
      clear hvw hb6 HW5 HWA HRW
      go_wp2_with fail
      refine (HR6.out).mono ?_
      rintro e w7 ⟨vr, rfl, hvr, hb7⟩
      obtain ⟨Ar, cr, rfl, _⟩ := id hvr
      have HB7 := Lib.hid (HB6.out.trans (hb7.mono HB6.out.size))
      have HVW7 := Lib.hid (HVW.out.below hb7)
      have HVR := Lib.hid hvr
      have HCI := Lib.hid (circles_any (HVW.out.below hb7) HWN.out (by have := HML.out; omega))
      clear hvr hb7 HR6 HVW
      have hml : ((M.length : Int) != (M.length : Int)) = false := by simp
      go_wp2_with fail
      refine (HCI.out).mono ?_
      rintro e w8 ⟨vc, c, rfl, hc, hrc, _, hb8⟩
      obtain rfl := HWD.out c hc
      obtain ⟨Ac, cc, rfl, _⟩ := id hrc.form
      have HB8 := Lib.hid (HB7.out.trans (hb8.mono HB7.out.size))
      have HVW8 := Lib.hid (HVW7.out.below hb8)
      have HVR8 := Lib.hid (HVR.out.below hb8)
      clear hc hrc hb8 HCI HVW7 HVR
      go_wp2_with fail
      go_loopw [102] (fun iv wx => ∃ i : Nat, i ≤ M.length ∧ iv = .int .i64 i ∧ Below w1.heap.size w1 wx ∧ EIs wx (.slice Aw M.length cw) M ∧ EIs wx (.slice Ar M.length cr) M) (fun iv _ => M.length - (intOf iv).toNat)
      case atStart => exact ⟨0, Nat.zero_le _, rfl, HB8.out, HVW8.out, HVR8.out⟩
      case round =>
        obtain ⟨i, hil, rfl, hb, hvw, hvr⟩ := hrel
        by_cases hlt : i < M.length
        · have hx : M[i]? = some M[i] := List.getElem?_eq_getElem hlt
          generalize M[i] = e at hx
          obtain ⟨e1, e2⟩ := e
          obtain ⟨_, _, e', _, _, h4⟩ := id hvw
          injection e' with q1 _ q3
          subst q1 q3
          obtain ⟨a, rfl, ha, p0, p1⟩ := h4 i _ hx
          obtain ⟨_, _, e', _, _, h5⟩ := id hvr
          injection e' with q1 _ q3
          subst q1 q3
          obtain ⟨b, rfl, hb', p2, p3⟩ := h5 i _ hx
          have hS0 : wr.drew.cell? (a.add (i * 2)) = some (.int .i64 e1) ∧ wr.drew.cell? ⟨(a.add (i * 2)).block, (a.add (i * 2)).off + 1, none⟩ = some (.int .i64 e2) ∧ wr.drew.cell? (b.add (i * 2)) = some (.int .i64 e1) ∧ wr.drew.cell? ⟨(b.add (i * 2)).block, (b.add (i * 2)).off + 1, none⟩ = some (.int .i64 e2) := ⟨p0, p1, p2, p3⟩
          have hi : (i : Int) < (M.length : Int) := by omega
          have HBi := Lib.hid (below_drew hb)
          have HWi : Hid (EIs wr.drew (.slice (some a) M.length cw) M ∧ EIs wr.drew (.slice (some b) M.length cr) M) := Lib.hid ⟨hvw, hvr⟩
          have HLi := Lib.hid hlt
          clear h4 h5 hx hb hvw hvr hil hlt ha hb' p0 p1 p2 p3
          go_wp2_with fail
          refine wp_region_held_drew (S := fun W => W.cell? (a.add (i * 2)) = some (.int .i64 e1) ∧ W.cell? ⟨(a.add (i * 2)).block, (a.add (i * 2)).off + 1, none⟩ = some (.int .i64 e2) ∧ W.cell? (b.add (i * 2)) = some (.int .i64 e1) ∧ W.cell? ⟨(b.add (i * 2)).block, (b.add (i * 2)).off + 1, none⟩ = some (.int .i64 e2)) (by kernel_rfl) hS0 (fun hHeld => ?_)
          refine wpAnyH_take (i := 0) (oi := { dst := some 105, op := Op.move (Operand.tmp 17), type := 33, pos := "law.go:89", after := #[], guard := none }) (v := ?vv1) rfl (by kernel_rfl) (by kernel_rfl) (by kernel_rfl) (fun _ _ _ h => h) ?hy1 (by assumption) ?rest1
          case hy1 => (refine Or.inl ⟨by rfl, ?_⟩; intro W hSw; (try dsimp only at hSw); go_simp; (try with_reducible rfl))
          try simp only [Act.put, List.setIfInBounds_toArray, List.set_cons_zero, List.set_cons_succ]
          refine wpAnyH_take (i := 1) (oi := { dst := some 106, op := Op.move (Operand.tmp 19), type := 3, pos := "law.go:89", after := #[], guard := none }) (v := ?vv2) rfl (by kernel_rfl) (by kernel_rfl) (by kernel_rfl) (fun _ _ _ h => h) ?hy2 (by assumption) ?rest2
          case hy2 => (refine Or.inl ⟨by rfl, ?_⟩; intro W hSw; (try dsimp only at hSw); go_simp; (try with_reducible rfl))
          try simp only [Act.put, List.setIfInBounds_toArray, List.set_cons_zero, List.set_cons_succ]
          refine wpAnyH_take (i := 2) (oi := { dst := some 107, op := Op.indexAddr 33 (Operand.tmp 105) (Operand.tmp 106), type := 0, pos := "law.go:89", after := #[{ on := 0, ground := Ground.data }, { on := 1, ground := Ground.data }], guard := none }) (v := ?vv3) rfl (by kernel_rfl) (by kernel_rfl) (by kernel_rfl) (fun _ _ _ h => h) ?hy3 (by assumption) ?rest3
          case hy3 => (refine Or.inl ⟨by rfl, ?_⟩; intro W hSw; (try dsimp only at hSw); go_simp; (try with_reducible rfl))
          try simp only [Act.put, List.setIfInBounds_toArray, List.set_cons_zero, List.set_cons_succ]
          refine wpAnyH_take (i := 3) (oi := { dst := some 108, op := Op.fieldAddr 39 (Operand.tmp 107) 0, type := 0, pos := "law.go:89", after := #[{ on := 2, ground := Ground.data }], guard := none }) (v := ?vv4) rfl (by kernel_rfl) (by kernel_rfl) (by kernel_rfl) (fun _ _ _ h => h) ?hy4 (by assumption) ?rest4
          case hy4 => (refine Or.inl ⟨by rfl, ?_⟩; intro W hSw; (try dsimp only at hSw); go_simp; (try with_reducible rfl))
          try simp only [Act.put, List.setIfInBounds_toArray, List.set_cons_zero, List.set_cons_succ]
          refine wpAnyH_take (i := 4) (oi := { dst := some 109, op := Op.load 3 (Operand.tmp 108), type := 3, pos := "law.go:89", after := #[{ on := 3, ground := Ground.data }], guard := none }) (v := ?vv5) rfl (by kernel_rfl) (by kernel_rfl) (by kernel_rfl) (fun _ _ _ h => h) ?hy5 (by assumption) ?rest5
          case hy5 => (refine Or.inl ⟨by rfl, ?_⟩; intro W hSw; (try dsimp only at hSw); go_simp; (try with_reducible rfl))
          try simp only [Act.put, List.setIfInBounds_toArray, List.set_cons_zero, List.set_cons_succ]
          refine wpAnyH_take (i := 5) (oi := { dst := some 110, op := Op.move (Operand.tmp 18), type := 35, pos := "law.go:89", after := #[], guard := none }) (v := ?vv6) rfl (by kernel_rfl) (by kernel_rfl) (by kernel_rfl) (fun _ _ _ h => h) ?hy6 (by assumption) ?rest6
          case hy6 => (refine Or.inl ⟨by rfl, ?_⟩; intro W hSw; (try dsimp only at hSw); go_simp; (try with_reducible rfl))
          try simp only [Act.put, List.setIfInBounds_toArray, List.set_cons_zero, List.set_cons_succ]
          refine wpAnyH_take (i := 6) (oi := { dst := some 111, op := Op.move (Operand.tmp 19), type := 3, pos := "law.go:89", after := #[], guard := none }) (v := ?vv7) rfl (by kernel_rfl) (by kernel_rfl) (by kernel_rfl) (fun _ _ _ h => h) ?hy7 (by assumption) ?rest7
          case hy7 => (refine Or.inl ⟨by rfl, ?_⟩; intro W hSw; (try dsimp only at hSw); go_simp; (try with_reducible rfl))
          try simp only [Act.put, List.setIfInBounds_toArray, List.set_cons_zero, List.set_cons_succ]
          refine wpAnyH_take (i := 7) (oi := { dst := some 112, op := Op.indexAddr 35 (Operand.tmp 110) (Operand.tmp 111), type := 0, pos := "law.go:89", after := #[{ on := 5, ground := Ground.data }, { on := 6, ground := Ground.data }], guard := none }) (v := ?vv8) rfl (by kernel_rfl) (by kernel_rfl) (by kernel_rfl) (fun _ _ _ h => h) ?hy8 (by assumption) ?rest8
          case hy8 => (refine Or.inl ⟨by rfl, ?_⟩; intro W hSw; (try dsimp only at hSw); go_simp; (try with_reducible rfl))
          try simp only [Act.put, List.setIfInBounds_toArray, List.set_cons_zero, List.set_cons_succ]
          refine wpAnyH_take (i := 8) (oi := { dst := some 113, op := Op.fieldAddr 40 (Operand.tmp 112) 0, type := 0, pos := "law.go:89", after := #[{ on := 7, ground := Ground.data }], guard := none }) (v := ?vv9) rfl (by kernel_rfl) (by kernel_rfl) (by kernel_rfl) (fun _ _ _ h => h) ?hy9 (by assumption) ?rest9
          case hy9 => (refine Or.inl ⟨by rfl, ?_⟩; intro W hSw; (try dsimp only at hSw); go_simp; (try with_reducible rfl))
          try simp only [Act.put, List.setIfInBounds_toArray, List.set_cons_zero, List.set_cons_succ]
          refine wpAnyH_take (i := 9) (oi := { dst := some 114, op := Op.load 3 (Operand.tmp 113), type := 3, pos := "law.go:89", after := #[{ on := 8, ground := Ground.data }], guard := none }) (v := ?vv10) rfl (by kernel_rfl) (by kernel_rfl) (by kernel_rfl) (fun _ _ _ h => h) ?hy10 (by assumption) ?rest10
          case hy10 => (refine Or.inl ⟨by rfl, ?_⟩; intro W hSw; (try dsimp only at hSw); go_simp; (try with_reducible rfl))
          try simp only [Act.put, List.setIfInBounds_toArray, List.set_cons_zero, List.set_cons_succ]
          refine wpAnyH_take (i := 10) (oi := { dst := some 115, op := Op.binOp BinOp.neq 3 (Operand.tmp 109) (Operand.tmp 114) 3, type := 4, pos := "law.go:89", after := #[{ on := 4, ground := Ground.data }, { on := 9, ground := Ground.data }], guard := none }) (v := (.bool false)) rfl (by kernel_rfl) (by kernel_rfl) (by kernel_rfl) (fun _ _ _ h => h) ?hy11 (by assumption) ?rest11
          case hy11 => ((refine Or.inl ⟨by rfl, ?_⟩; intro W hSw; (try dsimp only at hSw); go_simp; (try simp)))
          try simp only [Act.put, List.setIfInBounds_toArray, List.set_cons_zero, List.set_cons_succ]
          refine wpAnyH_take (i := 11) (oi := { dst := some 116, op := Op.move (Operand.tmp 115), type := 4, pos := "law.go:89", after := #[{ on := 10, ground := Ground.data }], guard := none }) (v := ?vv12) rfl (by kernel_rfl) (by kernel_rfl) (by kernel_rfl) (fun _ _ _ h => h) ?hy12 (by assumption) ?rest12
          case hy12 => (refine Or.inl ⟨by rfl, ?_⟩; intro W hSw; (try dsimp only at hSw); go_simp; (try with_reducible rfl))
          try simp only [Act.put, List.setIfInBounds_toArray, List.set_cons_zero, List.set_cons_succ]
          refine wpAnyH_take (i := 12) (oi := { dst := some 117, op := Op.move (Operand.tmp 17), type := 33, pos := "law.go:89", after := #[{ on := 11, ground := Ground.guard }], guard := some (11, false) }) (v := ?vv13) rfl (by kernel_rfl) (by kernel_rfl) (by kernel_rfl) (fun _ _ _ h => h) ?hy13 (by assumption) ?rest13
          case hy13 => (refine Or.inl ⟨by rfl, ?_⟩; intro W hSw; (try dsimp only at hSw); go_simp; (try with_reducible rfl))
          try simp only [Act.put, List.setIfInBounds_toArray, List.set_cons_zero, List.set_cons_succ]
          refine wpAnyH_take (i := 13) (oi := { dst := some 118, op := Op.move (Operand.tmp 19), type := 3, pos := "law.go:89", after := #[{ on := 11, ground := Ground.guard }], guard := some (11, false) }) (v := ?vv14) rfl (by kernel_rfl) (by kernel_rfl) (by kernel_rfl) (fun _ _ _ h => h) ?hy14 (by assumption) ?rest14
          case hy14 => (refine Or.inl ⟨by rfl, ?_⟩; intro W hSw; (try dsimp only at hSw); go_simp; (try with_reducible rfl))
          try simp only [Act.put, List.setIfInBounds_toArray, List.set_cons_zero, List.set_cons_succ]
          refine wpAnyH_take (i := 14) (oi := { dst := some 119, op := Op.indexAddr 33 (Operand.tmp 117) (Operand.tmp 118), type := 0, pos := "law.go:89", after := #[{ on := 12, ground := Ground.data }, { on := 13, ground := Ground.data }, { on := 11, ground := Ground.guard }], guard := some (11, false) }) (v := ?vv15) rfl (by kernel_rfl) (by kernel_rfl) (by kernel_rfl) (fun _ _ _ h => h) ?hy15 (by assumption) ?rest15
          case hy15 => (refine Or.inl ⟨by rfl, ?_⟩; intro W hSw; (try dsimp only at hSw); go_simp; (try with_reducible rfl))
          try simp only [Act.put, List.setIfInBounds_toArray, List.set_cons_zero, List.set_cons_succ]
          refine wpAnyH_take (i := 15) (oi := { dst := some 120, op := Op.fieldAddr 39 (Operand.tmp 119) 1, type := 0, pos := "law.go:89", after := #[{ on := 14, ground := Ground.data }, { on := 11, ground := Ground.guard }], guard := some (11, false) }) (v := ?vv16) rfl (by kernel_rfl) (by kernel_rfl) (by kernel_rfl) (fun _ _ _ h => h) ?hy16 (by assumption) ?rest16
          case hy16 => (refine Or.inl ⟨by rfl, ?_⟩; intro W hSw; (try dsimp only at hSw); go_simp; (try with_reducible rfl))
          try simp only [Act.put, List.setIfInBounds_toArray, List.set_cons_zero, List.set_cons_succ]
          refine wpAnyH_take (i := 16) (oi := { dst := some 121, op := Op.load 3 (Operand.tmp 120), type := 3, pos := "law.go:89", after := #[{ on := 15, ground := Ground.data }, { on := 11, ground := Ground.guard }], guard := some (11, false) }) (v := ?vv17) rfl (by kernel_rfl) (by kernel_rfl) (by kernel_rfl) (fun _ _ _ h => h) ?hy17 (by assumption) ?rest17
          case hy17 => (refine Or.inl ⟨by rfl, ?_⟩; intro W hSw; (try dsimp only at hSw); go_simp; (try with_reducible rfl))
          try simp only [Act.put, List.setIfInBounds_toArray, List.set_cons_zero, List.set_cons_succ]
          refine wpAnyH_take (i := 17) (oi := { dst := some 122, op := Op.move (Operand.tmp 18), type := 35, pos := "law.go:89", after := #[{ on := 11, ground := Ground.guard }], guard := some (11, false) }) (v := ?vv18) rfl (by kernel_rfl) (by kernel_rfl) (by kernel_rfl) (fun _ _ _ h => h) ?hy18 (by assumption) ?rest18
          case hy18 => (refine Or.inl ⟨by rfl, ?_⟩; intro W hSw; (try dsimp only at hSw); go_simp; (try with_reducible rfl))
          try simp only [Act.put, List.setIfInBounds_toArray, List.set_cons_zero, List.set_cons_succ]
          refine wpAnyH_take (i := 18) (oi := { dst := some 123, op := Op.move (Operand.tmp 19), type := 3, pos := "law.go:89", after := #[{ on := 11, ground := Ground.guard }], guard := some (11, false) }) (v := ?vv19) rfl (by kernel_rfl) (by kernel_rfl) (by kernel_rfl) (fun _ _ _ h => h) ?hy19 (by assumption) ?rest19
          case hy19 => (refine Or.inl ⟨by rfl, ?_⟩; intro W hSw; (try dsimp only at hSw); go_simp; (try with_reducible rfl))
          try simp only [Act.put, List.setIfInBounds_toArray, List.set_cons_zero, List.set_cons_succ]
          refine wpAnyH_take (i := 19) (oi := { dst := some 124, op := Op.indexAddr 35 (Operand.tmp 122) (Operand.tmp 123), type := 0, pos := "law.go:89", after := #[{ on := 17, ground := Ground.data }, { on := 18, ground := Ground.data }, { on := 11, ground := Ground.guard }], guard := some (11, false) }) (v := ?vv20) rfl (by kernel_rfl) (by kernel_rfl) (by kernel_rfl) (fun _ _ _ h => h) ?hy20 (by assumption) ?rest20
          case hy20 => (refine Or.inl ⟨by rfl, ?_⟩; intro W hSw; (try dsimp only at hSw); go_simp; (try with_reducible rfl))
          try simp only [Act.put, List.setIfInBounds_toArray, List.set_cons_zero, List.set_cons_succ]
          refine wpAnyH_take (i := 20) (oi := { dst := some 125, op := Op.fieldAddr 40 (Operand.tmp 124) 1, type := 0, pos := "law.go:89", after := #[{ on := 19, ground := Ground.data }, { on := 11, ground := Ground.guard }], guard := some (11, false) }) (v := ?vv21) rfl (by kernel_rfl) (by kernel_rfl) (by kernel_rfl) (fun _ _ _ h => h) ?hy21 (by assumption) ?rest21
          case hy21 => (refine Or.inl ⟨by rfl, ?_⟩; intro W hSw; (try dsimp only at hSw); go_simp; (try with_reducible rfl))
          try simp only [Act.put, List.setIfInBounds_toArray, List.set_cons_zero, List.set_cons_succ]
          refine wpAnyH_take (i := 21) (oi := { dst := some 126, op := Op.load 3 (Operand.tmp 125), type := 3, pos := "law.go:89", after := #[{ on := 20, ground := Ground.data }, { on := 11, ground := Ground.guard }], guard := some (11, false) }) (v := ?vv22) rfl (by kernel_rfl) (by kernel_rfl) (by kernel_rfl) (fun _ _ _ h => h) ?hy22 (by assumption) ?rest22
          case hy22 => (refine Or.inl ⟨by rfl, ?_⟩; intro W hSw; (try dsimp only at hSw); go_simp; (try with_reducible rfl))
          try simp only [Act.put, List.setIfInBounds_toArray, List.set_cons_zero, List.set_cons_succ]
          refine wpAnyH_take (i := 22) (oi := { dst := some 127, op := Op.binOp BinOp.neq 3 (Operand.tmp 121) (Operand.tmp 126) 3, type := 4, pos := "law.go:89", after := #[{ on := 16, ground := Ground.data }, { on := 21, ground := Ground.data }, { on := 11, ground := Ground.guard }], guard := some (11, false) }) (v := (.bool false)) rfl (by kernel_rfl) (by kernel_rfl) (by kernel_rfl) (fun _ _ _ h => h) ?hy23 (by assumption) ?rest23
          case hy23 => ((refine Or.inl ⟨by rfl, ?_⟩; intro W hSw; (try dsimp only at hSw); go_simp; (try simp)))
          try simp only [Act.put, List.setIfInBounds_toArray, List.set_cons_zero, List.set_cons_succ]
          refine wpAnyH_take (i := 23) (oi := { dst := some 128, op := Op.pick (Operand.tmp 116) (Operand.const (Value.bool true)) (Operand.tmp 127), type := 4, pos := "law.go:89", after := #[{ on := 11, ground := Ground.data }, { on := 22, ground := Ground.data }], guard := none }) (v := ?vv24) rfl (by kernel_rfl) (by kernel_rfl) (by kernel_rfl) (fun _ _ _ h => h) ?hy24 (by assumption) ?rest24
          case hy24 => (refine Or.inl ⟨by rfl, ?_⟩; intro W hSw; (try dsimp only at hSw); go_simp; (try with_reducible rfl))
          try simp only [Act.put, List.setIfInBounds_toArray, List.set_cons_zero, List.set_cons_succ]
          refine wpAnyH_done (by kernel_rfl) ?_ _
          clear hHeld hS0
          go_wp2_with fail
          go_roundw
          case rel => exact ⟨i + 1, HLi.out, by go_num, HBi.out, HWi.out⟩
          case measure => have := HLi.out; simp [intOf]; omega
        · obtain rfl : i = M.length := by omega
          have HB9 := Lib.hid hb
          clear hb hvw hvr hil hlt HVW8 HVR8 HB8
          go_wp2_with fail
          go_loopw [132] (fun iv wx => ∃ k : Nat, k ≤ L.length ∧ iv = .int .i64 k ∧ Below w1.heap.size w1 wx) (fun iv _ => L.length - (intOf iv).toNat)
          case atStart => exact ⟨0, Nat.zero_le _, rfl, HB9.out⟩
          case round =>
            obtain ⟨k, hk, rfl, hb⟩ := hrel
            by_cases hlt : k < L.length
            · have hx : L[k]? = some L[k] := List.getElem?_eq_getElem hlt
              have hs6 := (HL6.out _ (List.getElem_mem hlt)).1
              generalize L[k] = u at hx hs6
              obtain ⟨_, _, e', _, _, h4⟩ := HBU.out.below hb
              injection e' with e1 _ e3
              subst e1 e3
              obtain ⟨aa, sv, rfl, ha, p0, p1', hsv⟩ := h4 k u hx
              obtain ⟨x, sl⟩ := u
              have hs6 : sl.length ≤ 6 := hs6
              obtain ⟨Bu, cu, rfl, hs1, hs2, _⟩ := id hsv
              have p1 : wr.cell? ⟨(aa.add (k * 2)).block, (aa.add (k * 2)).off + 1, none⟩ = some (.slice Bu sl.length cu) := p1'
              have hai : (k : Int) < (L.length : Int) := by omega
              have hsI : (sl.length : Int) ≤ 6 := by omega
              have hbn := below_new (w := wr) (.cells #[.int .i64 x, .slice Bu sl.length cu] 32)
              have hat := alloc_at wr (.cells #[.int .i64 x, .slice Bu sl.length cu] 32)
              have hzz := asz wr (.cells #[.int .i64 x, .slice Bu sl.length cu] 32)
              have HVa := Lib.hid (hsv.below hbn)
              have HBa := Lib.hid (hb.trans (hbn.mono hb.size))
              have HUa := Lib.hid ((HBU.out.below hb).below hbn)
              have HLa := Lib.hid hlt
              have HATa := Lib.hid hat
              have HZa := Lib.hid hzz
              have HXk := Lib.hid hx
              clear h4 p1' hsv hx hb hk hlt hbn hs1 hs2 hat hzz
              go_wp2_with fail
              generalize wr.alloc (.cells #[.int .i64 x, .slice Bu sl.length cu] 32) = WU at *
              generalize wr.heap.size = zu at *
              clear p0 p1
              go_loopw [22, 138] (fun bv iv wx => ∃ (b : Nat) (B : Bool), b ≤ L.length ∧ iv = .int .i64 b ∧ bv = .bool B ∧ B = ((L.take b).all fun v => decide (x ≤ v.1)) ∧ Below WU.heap.size WU wx) (fun _ iv _ => L.length - (intOf iv).toNat)
              case atStart => exact ⟨0, true, Nat.zero_le _, rfl, rfl, rfl, Below.refl _ _⟩
              case round =>
                obtain ⟨b, B, hbl, rfl, rfl, hB, hb⟩ := hrel
                have hboxu := (hb.block zu (by have := HZa.out; omega)).trans HATa.out
                by_cases hlt : b < L.length
                · have hx : L[b]? = some L[b] := List.getElem?_eq_getElem hlt
                  generalize L[b] = v at hx
                  obtain ⟨_, _, e', _, _, h4⟩ := HUa.out.below hb
                  injection e' with e1 _ e3
                  subst e3
                  obtain ⟨ab, sv, eab, ha, p0, p1', hsv⟩ := h4 b v hx
                  rw [← e1] at eab
                  injection eab with eab
                  subst eab e1
                  obtain ⟨y, sm⟩ := v
                  obtain ⟨Bv, cv, rfl, hs1, hs2, _⟩ := id hsv
                  have p1 : wr.cell? ⟨(aa.add (b * 2)).block, (aa.add (b * 2)).off + 1, none⟩ = some (.slice Bv sm.length cv) := p1'
                  have hbi : (b : Int) < (L.length : Int) := by omega
                  have hbn := below_new (w := wr) (.cells #[.int .i64 y, .slice Bv sm.length cv] 32)
                  have hboxu2 := (hbn.block zu (heap_lt hboxu)).trans hboxu
                  have d0 := cell_of hboxu2 0
                  simp at d0
                  have HBb := Lib.hid (hb.trans (hbn.mono hb.size))
                  have HLb := Lib.hid hlt
                  have HN : Hid (((L.take (b + 1)).all fun v => decide (x ≤ v.1)) = (B && decide (x ≤ y))) := Lib.hid (by rw [List.take_add_one, hx, List.all_append, ← hB]; simp)
                  clear h4 p1' hsv hx hb hbl hlt hbn hs1 hs2 hB hboxu hboxu2
                  cases B with
                  | false =>
                    go_wp2_with fail
                    go_roundw
                    case rel => exact ⟨b + 1, false, HLb.out, by go_num, rfl, by rw [HN.out]; rfl, HBb.out⟩
                    case measure => have := HLb.out; simp [intOf]; omega
                  | true =>
                    by_cases hxy : x ≤ y
                    · have HN2 := Lib.hid (HN.out.trans (by rw [decide_eq_true hxy]))
                      go_wp2_with fail
                      go_roundw
                      case rel => exact ⟨b + 1, true, HLb.out, by go_num, rfl, HN2.out.symm, HBb.out⟩
                      case measure => have := HLb.out; simp [intOf]; omega
                    · have HN2 := Lib.hid (HN.out.trans (by rw [decide_eq_false hxy]))
                      go_wp2_with fail
                      go_roundw
                      case rel => exact ⟨b + 1, false, HLb.out, by go_num, rfl, HN2.out.symm, HBb.out⟩
                      case measure => have := HLb.out; simp [intOf]; omega
                · obtain rfl : b = L.length := by omega
                  rw [List.take_length] at hB
                  have d1 := cell_of hboxu 1
                  have d0 := cell_of hboxu 0
                  simp at d1 d0
                  have HBm := Lib.hid hb
                  have HBX := Lib.hid hboxu
                  have HME : Hid (B = true → ∀ s, mayP x s L = true) := Lib.hid (fun e s => may_least (u := (x, sl)) (fun v hv => by
                    rw [hB, List.all_eq_true] at e
                    exact of_decide_eq_true (e v hv)))
                  clear hb hbl hlt hB hboxu
                  go_wp2_with fail
                  generalize wr = wm at *
                  clear d0 d1
                  go_loopw [154] (fun iv wx => ∃ c : Nat, c ≤ sl.length ∧ iv = .int .i64 c ∧ Below wm.heap.size wm wx) (fun iv _ => sl.length - (intOf iv).toNat)
                  case atStart => exact ⟨0, Nat.zero_le _, rfl, Below.refl _ _⟩
                  case round =>
                    obtain ⟨c, hcl, rfl, hb⟩ := hrel
                    by_cases hlt : c < sl.length
                    · have hx : sl[c]? = some sl[c] := List.getElem?_eq_getElem hlt
                      generalize sl[c] = s at hx
                      obtain ⟨_, _, e', _, _, h4⟩ := HVa.out.below (HBm.out.trans (hb.mono HBm.out.size))
                      injection e' with e1 _ e3
                      subst e1 e3
                      obtain ⟨sa, rfl, _, p0⟩ := h4 c s hx
                      have hci : (c : Int) < (sl.length : Int) := by omega
                      have hbu := (hb.block zu (heap_lt HBX.out)).trans HBX.out
                      have d0 := cell_of hbu 0
                      simp at d0
                      have HMC := Lib.hid (HMA.out wr x s (HBa.out.trans ((HBm.out.trans (hb.mono HBm.out.size)).mono HBa.out.size)))
                      have HBc := Lib.hid hb
                      have HLc := Lib.hid hlt
                      clear h4 hx hb hcl hlt hbu
                      cases B with
                      | false =>
                        go_wp2_with fail
                        go_roundw
                        case rel => exact ⟨c + 1, HLc.out, by go_num, HBc.out⟩
                        case measure => have := HLc.out; simp [intOf]; omega
                      | true =>
                        rw [HME.out rfl s] at HMC
                        go_wp2_with fail
                        refine (HMC.out).mono ?_
                        rintro e w5 ⟨rfl, hb5⟩
                        have HB5 := Lib.hid (HBc.out.trans (hb5.mono HBc.out.size))
                        clear hb5 HMC
                        go_wp2_with fail
                        go_roundw
                        case rel => exact ⟨c + 1, HLc.out, by go_num, HB5.out⟩
                        case measure => have := HLc.out; simp [intOf]; omega
                    · obtain rfl : c = sl.length := by omega
                      have HBF := Lib.hid (HBa.out.trans ((HBm.out.trans (hb.mono HBm.out.size)).mono HBa.out.size))
                      clear hb hcl hlt
                      go_wp2_with fail
                      go_roundw
                      case rel => exact ⟨k + 1, HLa.out, by go_num, HBF.out⟩
                      case measure => have := HLa.out; simp [intOf]; omega
            · obtain rfl : k = L.length := by omega
              have HAW := Lib.hid (awakeO_any wr)
              have HBF := Lib.hid (HB1.out.trans (hb.mono HB1.out.size))
              clear hb hk hlt
              go_wp2_with fail
              refine (HAW.out).mono ?_
              rintro e w9 ⟨rfl, hb9⟩
              have HBZ := Lib.hid (HBF.out.trans (hb9.mono HBF.out.size))
              clear hb9
              go_wp2_with fail
              go_ret
              first | exact HBZ.out | exact ⟨rfl, HBZ.out⟩
end Go.Proofs.Ytlbhpeeggbfcpaa
