/- order: the law OrderCertifies. -/
import Derived.Test.YtlbhpeeggbfcpaaZOcD
import Derived.Test.YtlbhpeeggbfcpaaZOrdR
import Derived.Test.YtlbhpeeggbfcpaaZOrdT
set_option linter.unusedSimpArgs false
set_option linter.unusedVariables false
set_option linter.unnecessarySimpa false
namespace Go.Proofs.Ytlbhpeeggbfcpaa
open Go.RowKit

set_option maxRecDepth 100000 in
set_option maxHeartbeats 4000000 in
theorem law_ocert {w : World} {v : Value} {T : List Tk} (h : KIs w v T) (hg : ∀ t ∈ T, InR64 t.g) : Calls Try.prog 4 #[v] w fun e w' => e = .returned (.bool true) ∧ Below w.heap.size w w' := by
  obtain ⟨A, cap, rfl, h1, h2, _⟩ := id h
  unfold maxLen at h2
  have HTK := Lib.hid (tickets_any h)
  have hS16 : (T.take 16).length ≤ 16 := by rw [List.length_take]; omega
  have HSG : Hid (∀ t ∈ T.take 16, InR64 t.g) := Lib.hid (fun t ht => hg t (List.mem_of_mem_take ht))
  clear h hg
  generalize T.take 16 = S at *
  have HS16 := Lib.hid hS16
  have HUQ : Hid (∀ o b p c, certP S o b → certP S p c → o = p ∧ b = c) := Lib.hid (fun o b p c h k => certP_uniq h k)
  obtain ⟨rb, hrb⟩ : ∃ rb, riA S = rb := ⟨_, rfl⟩
  have HRB := Lib.hid hrb
  clear hS16 hrb
  go_enter Try.func4, Try.ntmps4
  go_wp2_with fail
  refine (HTK.out).mono ?_
  rintro e w1 ⟨va, vb, rfl, ha, hb, hb1⟩
  obtain ⟨Aa, ca, rfl, _⟩ := id ha.form
  obtain ⟨Ab, cb, rfl, _⟩ := id hb.form
  have HB1 := Lib.hid hb1
  have HRIS : Hid (∀ wx, Below w1.heap.size w1 wx → Calls Try.prog 18 #[.slice Aa S.length ca] wx fun e w' => e = .returned (.bool rb) ∧ Below wx.heap.size wx w') := Lib.hid (fun wx hbx => (Rises_any (ha.below hbx) (by have := HS16.out; omega)).mono (by
    rintro e w' ⟨b, rfl, hq, hb'⟩
    refine ⟨?_, hb'⟩
    have h3 := riA_iff (T := S)
    rw [HRB.out] at h3
    have : b = rb := by cases b <;> cases rb <;> simp_all
    rw [this]))
  have HRRI : Hid (∀ wx, Below w1.heap.size w1 wx → Calls Try.prog 19 #[.slice Ab S.length cb] wx fun e w' => e = .returned (.bool rb) ∧ Below wx.heap.size wx w') := Lib.hid (fun wx hbx => (RRises_any (hb.below hbx) (by have := HS16.out; omega)).mono (by
    rintro e w' ⟨rfl, hb'⟩
    rw [HRB.out]
    exact ⟨rfl, hb'⟩))
  have HAHD : Hid (∀ (wx : World) (x y : Int), Below w1.heap.size w1 wx → Calls Try.prog 20 #[.int .i64 x, .int .i64 y, .slice Ab S.length cb] wx fun e w' => e = .returned (.bool (aheadB S x y)) ∧ Below wx.heap.size wx w') := Lib.hid (fun wx x y hbx => Ahead_any (hb.below hbx) (by have := HS16.out; omega))
  have HCE := Lib.hid (Certify_any ha (by have := HS16.out; omega) HSG.out)
  have HRC : Hid (∀ wx, Below w1.heap.size w1 wx → Calls Try.prog 16 #[.slice Ab S.length cb] wx (CerQ wx S)) := Lib.hid (fun wx hbx => RCertify_any (hb.below hbx) HS16.out)
  clear ha hb hb1 HTK
  go_wp2_with fail
  refine (HCE.out).mono ?_
  rintro e w2 ⟨v2, o, b, rfl, hc, hs, hb2⟩
  have HB2 := Lib.hid hb2
  have HC2 := Lib.hid hc
  have HS2 := Lib.hid hs
  have HR2 := Lib.hid (HRC.out w2 hb2)
  clear hc hs hb2 HCE HRC
  go_wp2_with fail
  refine (HR2.out).mono ?_
  rintro e w3 ⟨v3, o3, b3, rfl, hc, hs, hb3⟩
  obtain ⟨rfl, rfl⟩ := HUQ.out _ _ _ _ HC2.out hc
  have hol : o.length ≤ 1000 := by
    have h5 := certP_told HC2.out
    have := nodup_le h5.one h5.sub
    have := (allG_holds S).2.2
    have := HS16.out
    omega
  have HAH : Hid (∀ (i k : Nat) (x y : Int), o[i]? = some x → o[k]? = some y → k < i → aheadB S x y = false) := Lib.hid (certP_told HC2.out).ahead
  have HUP : Hid (rb = true → b = true ∧ ∀ (i k : Nat) (x y : Int), o[i]? = some x → o[k]? = some y → k < i → y < x) := Lib.hid (fun e => by
    obtain ⟨q1, q2⟩ := riA_iff.1 (HRB.out.trans e)
    obtain ⟨q3, q4⟩ := certP_rise HC2.out q2 q1
    refine ⟨q3, fun i k x y hi hk hki => ?_⟩
    have q5 := List.pairwise_iff_getElem.1 (allG_holds S).1
    rw [q4] at hi hk
    obtain ⟨hi1, hi2⟩ := List.getElem?_eq_some_iff.1 hi
    obtain ⟨hk1, hk2⟩ := List.getElem?_eq_some_iff.1 hk
    have := q5 k i hk1 hi1 hki
    rw [hi2, hk2] at this
    exact this)
  have hb13 := HB2.out.trans (hb3.mono HB2.out.size)
  have hsp := HS2.out.below hb3
  have HI := Lib.hid (ints_any hsp hs hol hol)
  rw [decide_eq_true rfl] at HI
  obtain ⟨Ao, co, rfl, _⟩ := id hsp
  obtain ⟨Ap, cp, rfl, _⟩ := id hs
  have HB3 := Lib.hid hb13
  have HSP := Lib.hid hsp
  clear hc hs hb3 HR2 HS2 hsp hb13
  have HOL := Lib.hid hol
  clear hol
  go_wp2_with fail
  refine (HI.out).mono ?_
  rintro e w4 ⟨rfl, hb4⟩
  have HB4 := Lib.hid (HB3.out.trans (hb4.mono HB3.out.size))
  have HSO := Lib.hid (HSP.out.below hb4)
  have HRS := Lib.hid (HRIS.out w4 HB4.out)
  clear hb4 HI HSP
  go_wp2_with fail
  refine (HRS.out).mono ?_
  rintro e w5 ⟨rfl, hb5⟩
  have HB5 := Lib.hid (HB4.out.trans (hb5.mono HB4.out.size))
  have HSO5 := Lib.hid (HSO.out.below hb5)
  have HRR := Lib.hid (HRRI.out w5 HB5.out)
  clear hb5 HRS HSO
  go_wp2_with fail
  refine (HRR.out).mono ?_
  rintro e w6 ⟨rfl, hb6⟩
  have HB6 := Lib.hid (HB5.out.trans (hb6.mono HB5.out.size))
  have HSO6 := Lib.hid (HSO5.out.below hb6)
  clear hb6 HRR HSO5
  have hrr : (rb != rb) = false := by simp
  go_wp2_with fail
  have hoI : (o.length : Int) ≤ 1000 := by have := HOL.out; omega
  go_loopw [44] (fun iv wr => ∃ i : Nat, i ≤ o.length ∧ iv = .int .i64 i ∧ Below w1.heap.size w1 wr ∧ SIs wr (.slice Ao o.length co) o) (fun iv _ => o.length - (intOf iv).toNat)
  case atStart => exact ⟨0, Nat.zero_le _, rfl, HB6.out, HSO6.out⟩
  case round =>
    obtain ⟨i, hil, rfl, hb, hs⟩ := hrel
    by_cases hlt : i < o.length
    · have hi : (i : Int) < (o.length : Int) := by have := HOL.out; omega
      have HSi := Lib.hid hs
      have HBi := Lib.hid hb
      have HLi := Lib.hid hlt
      have hx : o[i]? = some o[i] := List.getElem?_eq_getElem hlt
      generalize o[i] = x at hx
      have HX := Lib.hid hx
      clear hs hb hil hx hlt
      generalize wr = wi at *
      go_wp2_with fail
      go_loopw [10] (fun kv wx => ∃ k : Nat, k ≤ i ∧ kv = .int .i64 k ∧ Below wi.heap.size wi wx) (fun kv _ => i - (intOf kv).toNat)
      case atStart => exact ⟨0, Nat.zero_le _, rfl, Below.refl _ _⟩
      case round =>
        obtain ⟨k, hki, rfl, hb⟩ := hrel
        by_cases hlk : k < i
        · have hkI : (k : Int) < (i : Int) := by omega
          have hko : k < o.length := by have := HLi.out; omega
          have hkO : (k : Int) < (o.length : Int) := by omega
          have hy : o[k]? = some o[k] := List.getElem?_eq_getElem hko
          generalize o[k] = y at hy
          obtain ⟨_, _, e', _, _, hc⟩ := HSi.out.below hb
          injection e' with e1 _ e3
          subst e1 e3
          obtain ⟨a, rfl, ha, q0⟩ := hc i x HX.out
          obtain ⟨a', ea, _, q1⟩ := hc k y hy
          injection ea with ea
          subst ea
          have hah := HAH.out i k x y HX.out hy hlk
          have HA := Lib.hid (HAHD.out wr.drew x y (below_drew (HBi.out.trans (hb.mono HBi.out.size))))
          rw [hah] at HA
          have hS0 : wr.drew.cell? (a.add i) = some (.int .i64 x) ∧ wr.drew.cell? (a.add k) = some (.int .i64 y) := ⟨q0, q1⟩
          have hal : a.block < wr.drew.heap.size := ha
          have HSK : Hid (∀ wx, Below wr.drew.heap.size wr.drew wx → wx.cell? (a.add i) = some (.int .i64 x) ∧ wx.cell? (a.add k) = some (.int .i64 y)) := Lib.hid (fun wx hbx => ⟨(hbx.cell (p := a.add i) (by rw [add_block]; exact hal)).trans hS0.1, (hbx.cell (p := a.add k) (by rw [add_block]; exact hal)).trans hS0.2⟩)
          have HBk := Lib.hid (below_drew hb)
          have HRI : Hid (∀ wx, Below wr.drew.heap.size wr.drew wx → Calls Try.prog 18 #[.slice Aa S.length ca] wx fun e w' => e = .returned (.bool rb) ∧ Below wx.heap.size wx w') := Lib.hid (fun wx hbx => HRIS.out wx ((below_drew (HBi.out.trans (hb.mono HBi.out.size))).trans (hbx.mono (Nat.le_trans HBi.out.size hb.size))))
          have HLk := Lib.hid hlk
          have HYX : Hid (rb = true → ¬ x ≤ y) := Lib.hid (fun e => by have := (HUP.out e).2 i k x y HX.out hy hlk; omega)
          clear hah ha hal hc hb hlk hki hko hy
          cases rb with
          | true =>
              have hge := HYX.out rfl
              go_wp2_with fail
              refine wp_region_held_drew (S := fun W => W.cell? (a.add i) = some (.int .i64 x) ∧ W.cell? (a.add k) = some (.int .i64 y)) (by kernel_rfl) hS0 (fun hHeld => ?_)
              clear q0 q1
              refine wpAnyH_take (i := 0) (oi := { dst := some 52, op := Op.move (Operand.tmp 5), type := 30, pos := "law.go:117", after := #[], guard := none }) (v := ?vv1) rfl (by kernel_rfl) (by kernel_rfl) (by kernel_rfl) (fun _ _ _ h => h) ?hy1 (by assumption) ?rest1
              case hy1 => (refine Or.inl ⟨by rfl, ?_⟩; intro W hSw; (try dsimp only at hSw); go_simp; (try with_reducible rfl))
              try simp only [Act.put, List.setIfInBounds_toArray, List.set_cons_zero, List.set_cons_succ]
              refine wpAnyH_take (i := 1) (oi := { dst := some 53, op := Op.move (Operand.tmp 9), type := 3, pos := "law.go:117", after := #[], guard := none }) (v := ?vv2) rfl (by kernel_rfl) (by kernel_rfl) (by kernel_rfl) (fun _ _ _ h => h) ?hy2 (by assumption) ?rest2
              case hy2 => (refine Or.inl ⟨by rfl, ?_⟩; intro W hSw; (try dsimp only at hSw); go_simp; (try with_reducible rfl))
              try simp only [Act.put, List.setIfInBounds_toArray, List.set_cons_zero, List.set_cons_succ]
              refine wpAnyH_take (i := 2) (oi := { dst := some 54, op := Op.indexAddr 30 (Operand.tmp 52) (Operand.tmp 53), type := 0, pos := "law.go:117", after := #[{ on := 0, ground := Ground.data }, { on := 1, ground := Ground.data }], guard := none }) (v := ?vv3) rfl (by kernel_rfl) (by kernel_rfl) (by kernel_rfl) (fun _ _ _ h => h) ?hy3 (by assumption) ?rest3
              case hy3 => (refine Or.inl ⟨by rfl, ?_⟩; intro W hSw; (try dsimp only at hSw); go_simp; (try with_reducible rfl))
              try simp only [Act.put, List.setIfInBounds_toArray, List.set_cons_zero, List.set_cons_succ]
              refine wpAnyH_take (i := 3) (oi := { dst := some 55, op := Op.load 3 (Operand.tmp 54), type := 3, pos := "law.go:117", after := #[{ on := 2, ground := Ground.data }], guard := none }) (v := ?vv4) rfl (by kernel_rfl) (by kernel_rfl) (by kernel_rfl) (fun _ _ _ h => h) ?hy4 (by assumption) ?rest4
              case hy4 => (refine Or.inl ⟨by rfl, ?_⟩; intro W hSw; (try dsimp only at hSw); go_simp; (try with_reducible rfl))
              try simp only [Act.put, List.setIfInBounds_toArray, List.set_cons_zero, List.set_cons_succ]
              refine wpAnyH_take (i := 4) (oi := { dst := some 56, op := Op.move (Operand.tmp 5), type := 30, pos := "law.go:117", after := #[], guard := none }) (v := ?vv5) rfl (by kernel_rfl) (by kernel_rfl) (by kernel_rfl) (fun _ _ _ h => h) ?hy5 (by assumption) ?rest5
              case hy5 => (refine Or.inl ⟨by rfl, ?_⟩; intro W hSw; (try dsimp only at hSw); go_simp; (try with_reducible rfl))
              try simp only [Act.put, List.setIfInBounds_toArray, List.set_cons_zero, List.set_cons_succ]
              refine wpAnyH_take (i := 5) (oi := { dst := some 57, op := Op.move (Operand.tmp 10), type := 3, pos := "law.go:117", after := #[], guard := none }) (v := ?vv6) rfl (by kernel_rfl) (by kernel_rfl) (by kernel_rfl) (fun _ _ _ h => h) ?hy6 (by assumption) ?rest6
              case hy6 => (refine Or.inl ⟨by rfl, ?_⟩; intro W hSw; (try dsimp only at hSw); go_simp; (try with_reducible rfl))
              try simp only [Act.put, List.setIfInBounds_toArray, List.set_cons_zero, List.set_cons_succ]
              refine wpAnyH_take (i := 6) (oi := { dst := some 58, op := Op.indexAddr 30 (Operand.tmp 56) (Operand.tmp 57), type := 0, pos := "law.go:117", after := #[{ on := 4, ground := Ground.data }, { on := 5, ground := Ground.data }], guard := none }) (v := ?vv7) rfl (by kernel_rfl) (by kernel_rfl) (by kernel_rfl) (fun _ _ _ h => h) ?hy7 (by assumption) ?rest7
              case hy7 => (refine Or.inl ⟨by rfl, ?_⟩; intro W hSw; (try dsimp only at hSw); go_simp; (try with_reducible rfl))
              try simp only [Act.put, List.setIfInBounds_toArray, List.set_cons_zero, List.set_cons_succ]
              refine wpAnyH_take (i := 7) (oi := { dst := some 59, op := Op.load 3 (Operand.tmp 58), type := 3, pos := "law.go:117", after := #[{ on := 6, ground := Ground.data }], guard := none }) (v := ?vv8) rfl (by kernel_rfl) (by kernel_rfl) (by kernel_rfl) (fun _ _ _ h => h) ?hy8 (by assumption) ?rest8
              case hy8 => (refine Or.inl ⟨by rfl, ?_⟩; intro W hSw; (try dsimp only at hSw); go_simp; (try with_reducible rfl))
              try simp only [Act.put, List.setIfInBounds_toArray, List.set_cons_zero, List.set_cons_succ]
              refine wpAnyH_take (i := 8) (oi := { dst := some 60, op := Op.move (Operand.tmp 4), type := 43, pos := "law.go:117", after := #[], guard := none }) (v := ?vv9) rfl (by kernel_rfl) (by kernel_rfl) (by kernel_rfl) (fun _ _ _ h => h) ?hy9 (by assumption) ?rest9
              case hy9 => (refine Or.inl ⟨by rfl, ?_⟩; intro W hSw; (try dsimp only at hSw); go_simp; (try with_reducible rfl))
              try simp only [Act.put, List.setIfInBounds_toArray, List.set_cons_zero, List.set_cons_succ]
              refine wpAnyH_ready (rs := [9]) (by kernel_rfl) (by simp) ?_
              refine AllReadyH.cons (o := { dst := some 61, op := Op.call { callee := Callee.value (Operand.func 20), args := #[Operand.tmp 55, Operand.tmp 59, Operand.tmp 60], argTypes := #[3, 3, 43] }, type := 4, pos := "law.go:117", after := #[{ on := 3, ground := Ground.data }, { on := 7, ground := Ground.data }, { on := 8, ground := Ground.data }], guard := none }) rfl (fun K hK => ?step10) ?more10
              case more10 => exact AllReadyH.nil
              ((go_simp; go_at_call 20; refine (HA.out).mono ?_; rintro e w7 ⟨rfl, hb7⟩; go_wp2_with fail))
              refine hK.out _ _ ?hS10 (fun hHeld => ?rr10)
              case hS10 => (exact HSK.out _ hb7)
              clear hK K
              try simp only [Act.put, List.setIfInBounds_toArray, List.set_cons_zero, List.set_cons_succ]
              skip
              refine wpAnyH_take (i := 10) (oi := { dst := some 62, op := Op.move (Operand.tmp 61), type := 4, pos := "law.go:117", after := #[{ on := 9, ground := Ground.data }, { on := 9, ground := Ground.chain }], guard := none }) (v := ?vv11) rfl (by kernel_rfl) (by kernel_rfl) (by kernel_rfl) (fun _ _ _ h => h) ?hy11 (by assumption) ?rest11
              case hy11 => (refine Or.inl ⟨by rfl, ?_⟩; intro W hSw; (try dsimp only at hSw); go_simp; (try with_reducible rfl))
              try simp only [Act.put, List.setIfInBounds_toArray, List.set_cons_zero, List.set_cons_succ]
              refine wpAnyH_take (i := 11) (oi := { dst := some 63, op := Op.move (Operand.tmp 3), type := 44, pos := "law.go:117", after := #[{ on := 10, ground := Ground.guard }], guard := some (10, false) }) (v := ?vv12) rfl (by kernel_rfl) (by kernel_rfl) (by kernel_rfl) (fun _ _ _ h => h) ?hy12 (by assumption) ?rest12
              case hy12 => (refine Or.inl ⟨by rfl, ?_⟩; intro W hSw; (try dsimp only at hSw); go_simp; (try with_reducible rfl))
              try simp only [Act.put, List.setIfInBounds_toArray, List.set_cons_zero, List.set_cons_succ]
              refine wpAnyH_ready (rs := [12]) (by kernel_rfl) (by simp) ?_
              refine AllReadyH.cons (o := { dst := some 64, op := Op.call { callee := Callee.value (Operand.func 18), args := #[Operand.tmp 63], argTypes := #[44] }, type := 4, pos := "law.go:117", after := #[{ on := 11, ground := Ground.data }, { on := 10, ground := Ground.chain }, { on := 10, ground := Ground.guard }], guard := some (10, false) }) rfl (fun K hK => ?step13) ?more13
              case more13 => exact AllReadyH.nil
              ((go_simp; go_at_call 18; refine (HRI.out w7 hb7).mono ?_; rintro e w8 ⟨rfl, hb8⟩; go_wp2_with fail))
              refine hK.out _ _ ?hS13 (fun hHeld => ?rr13)
              case hS13 => (exact HSK.out _ (hb7.trans (hb8.mono hb7.size)))
              clear hK K
              try simp only [Act.put, List.setIfInBounds_toArray, List.set_cons_zero, List.set_cons_succ]
              refine wpAnyH_take (i := 13) (oi := { dst := some 65, op := Op.move (Operand.tmp 64), type := 4, pos := "law.go:117", after := #[{ on := 12, ground := Ground.data }, { on := 12, ground := Ground.chain }, { on := 10, ground := Ground.guard }], guard := some (10, false) }) (v := ?vv14) rfl (by kernel_rfl) (by kernel_rfl) (by kernel_rfl) (fun _ _ _ h => h) ?hy14 (by assumption) ?rest14
              case hy14 => (refine Or.inl ⟨by rfl, ?_⟩; intro W hSw; (try dsimp only at hSw); go_simp; (try with_reducible rfl))
              try simp only [Act.put, List.setIfInBounds_toArray, List.set_cons_zero, List.set_cons_succ]
              refine wpAnyH_take (i := 14) (oi := { dst := some 66, op := Op.move (Operand.tmp 5), type := 30, pos := "law.go:117", after := #[{ on := 13, ground := Ground.guard }], guard := some (13, true) }) (v := ?vv15) rfl (by kernel_rfl) (by kernel_rfl) (by kernel_rfl) (fun _ _ _ h => h) ?hy15 (by assumption) ?rest15
              case hy15 => (refine Or.inl ⟨by rfl, ?_⟩; intro W hSw; (try dsimp only at hSw); go_simp; (try with_reducible rfl))
              try simp only [Act.put, List.setIfInBounds_toArray, List.set_cons_zero, List.set_cons_succ]
              refine wpAnyH_take (i := 15) (oi := { dst := some 67, op := Op.move (Operand.tmp 10), type := 3, pos := "law.go:117", after := #[{ on := 13, ground := Ground.guard }], guard := some (13, true) }) (v := ?vv16) rfl (by kernel_rfl) (by kernel_rfl) (by kernel_rfl) (fun _ _ _ h => h) ?hy16 (by assumption) ?rest16
              case hy16 => (refine Or.inl ⟨by rfl, ?_⟩; intro W hSw; (try dsimp only at hSw); go_simp; (try with_reducible rfl))
              try simp only [Act.put, List.setIfInBounds_toArray, List.set_cons_zero, List.set_cons_succ]
              refine wpAnyH_take (i := 16) (oi := { dst := some 68, op := Op.indexAddr 30 (Operand.tmp 66) (Operand.tmp 67), type := 0, pos := "law.go:117", after := #[{ on := 14, ground := Ground.data }, { on := 15, ground := Ground.data }, { on := 13, ground := Ground.guard }], guard := some (13, true) }) (v := ?vv17) rfl (by kernel_rfl) (by kernel_rfl) (by kernel_rfl) (fun _ _ _ h => h) ?hy17 (by assumption) ?rest17
              case hy17 => (refine Or.inl ⟨by rfl, ?_⟩; intro W hSw; (try dsimp only at hSw); go_simp; (try with_reducible rfl))
              try simp only [Act.put, List.setIfInBounds_toArray, List.set_cons_zero, List.set_cons_succ]
              refine wpAnyH_take (i := 17) (oi := { dst := some 69, op := Op.load 3 (Operand.tmp 68), type := 3, pos := "law.go:117", after := #[{ on := 16, ground := Ground.data }, { on := 13, ground := Ground.guard }], guard := some (13, true) }) (v := ?vv18) rfl (by kernel_rfl) (by kernel_rfl) (by kernel_rfl) (fun _ _ _ h => h) ?hy18 (by assumption) ?rest18
              case hy18 => (refine Or.inl ⟨by rfl, ?_⟩; intro W hSw; (try dsimp only at hSw); go_simp; (try with_reducible rfl))
              try simp only [Act.put, List.setIfInBounds_toArray, List.set_cons_zero, List.set_cons_succ]
              refine wpAnyH_take (i := 18) (oi := { dst := some 70, op := Op.move (Operand.tmp 5), type := 30, pos := "law.go:117", after := #[{ on := 13, ground := Ground.guard }], guard := some (13, true) }) (v := ?vv19) rfl (by kernel_rfl) (by kernel_rfl) (by kernel_rfl) (fun _ _ _ h => h) ?hy19 (by assumption) ?rest19
              case hy19 => (refine Or.inl ⟨by rfl, ?_⟩; intro W hSw; (try dsimp only at hSw); go_simp; (try with_reducible rfl))
              try simp only [Act.put, List.setIfInBounds_toArray, List.set_cons_zero, List.set_cons_succ]
              refine wpAnyH_take (i := 19) (oi := { dst := some 71, op := Op.move (Operand.tmp 9), type := 3, pos := "law.go:117", after := #[{ on := 13, ground := Ground.guard }], guard := some (13, true) }) (v := ?vv20) rfl (by kernel_rfl) (by kernel_rfl) (by kernel_rfl) (fun _ _ _ h => h) ?hy20 (by assumption) ?rest20
              case hy20 => (refine Or.inl ⟨by rfl, ?_⟩; intro W hSw; (try dsimp only at hSw); go_simp; (try with_reducible rfl))
              try simp only [Act.put, List.setIfInBounds_toArray, List.set_cons_zero, List.set_cons_succ]
              refine wpAnyH_take (i := 20) (oi := { dst := some 72, op := Op.indexAddr 30 (Operand.tmp 70) (Operand.tmp 71), type := 0, pos := "law.go:117", after := #[{ on := 18, ground := Ground.data }, { on := 19, ground := Ground.data }, { on := 13, ground := Ground.guard }], guard := some (13, true) }) (v := ?vv21) rfl (by kernel_rfl) (by kernel_rfl) (by kernel_rfl) (fun _ _ _ h => h) ?hy21 (by assumption) ?rest21
              case hy21 => (refine Or.inl ⟨by rfl, ?_⟩; intro W hSw; (try dsimp only at hSw); go_simp; (try with_reducible rfl))
              try simp only [Act.put, List.setIfInBounds_toArray, List.set_cons_zero, List.set_cons_succ]
              refine wpAnyH_take (i := 21) (oi := { dst := some 73, op := Op.load 3 (Operand.tmp 72), type := 3, pos := "law.go:117", after := #[{ on := 20, ground := Ground.data }, { on := 13, ground := Ground.guard }], guard := some (13, true) }) (v := ?vv22) rfl (by kernel_rfl) (by kernel_rfl) (by kernel_rfl) (fun _ _ _ h => h) ?hy22 (by assumption) ?rest22
              case hy22 => (refine Or.inl ⟨by rfl, ?_⟩; intro W hSw; (try dsimp only at hSw); go_simp; (try with_reducible rfl))
              try simp only [Act.put, List.setIfInBounds_toArray, List.set_cons_zero, List.set_cons_succ]
              refine wpAnyH_take (i := 22) (oi := { dst := some 74, op := Op.binOp BinOp.geq 3 (Operand.tmp 69) (Operand.tmp 73) 3, type := 4, pos := "law.go:117", after := #[{ on := 17, ground := Ground.data }, { on := 21, ground := Ground.data }, { on := 13, ground := Ground.guard }], guard := some (13, true) }) (v := (.bool false)) rfl (by kernel_rfl) (by kernel_rfl) (by kernel_rfl) (fun _ _ _ h => h) ?hy23 (by assumption) ?rest23
              case hy23 => ((refine Or.inl ⟨by rfl, ?_⟩; intro W hSw; (try dsimp only at hSw); go_simp; (try simp [hge])))
              try simp only [Act.put, List.setIfInBounds_toArray, List.set_cons_zero, List.set_cons_succ]
              refine wpAnyH_take (i := 23) (oi := { dst := some 75, op := Op.pick (Operand.tmp 65) (Operand.tmp 74) (Operand.const (Value.bool false)), type := 4, pos := "law.go:117", after := #[{ on := 13, ground := Ground.data }, { on := 22, ground := Ground.data }, { on := 10, ground := Ground.guard }], guard := some (10, false) }) (v := ?vv24) rfl (by kernel_rfl) (by kernel_rfl) (by kernel_rfl) (fun _ _ _ h => h) ?hy24 (by assumption) ?rest24
              case hy24 => (refine Or.inl ⟨by rfl, ?_⟩; intro W hSw; (try dsimp only at hSw); go_simp; (try with_reducible rfl))
              try simp only [Act.put, List.setIfInBounds_toArray, List.set_cons_zero, List.set_cons_succ]
              refine wpAnyH_take (i := 24) (oi := { dst := some 76, op := Op.pick (Operand.tmp 62) (Operand.const (Value.bool true)) (Operand.tmp 75), type := 4, pos := "law.go:117", after := #[{ on := 10, ground := Ground.data }, { on := 23, ground := Ground.data }], guard := none }) (v := ?vv25) rfl (by kernel_rfl) (by kernel_rfl) (by kernel_rfl) (fun _ _ _ h => h) ?hy25 (by assumption) ?rest25
              case hy25 => (refine Or.inl ⟨by rfl, ?_⟩; intro W hSw; (try dsimp only at hSw); go_simp; (try with_reducible rfl))
              try simp only [Act.put, List.setIfInBounds_toArray, List.set_cons_zero, List.set_cons_succ]
              refine wpAnyH_done (by kernel_rfl) ?_ _
              have HB8 := Lib.hid (HBk.out.trans ((hb7.trans (hb8.mono hb7.size)).mono HBk.out.size))
              clear hHeld hb7 hb8
              go_wp2_with fail
              go_roundw
              case rel => exact ⟨k + 1, HLk.out, by go_num, HB8.out⟩
              case measure => have := HLk.out; simp [intOf]; omega
          | false =>
              go_wp2_with fail
              refine wp_region_held_drew (S := fun W => W.cell? (a.add i) = some (.int .i64 x) ∧ W.cell? (a.add k) = some (.int .i64 y)) (by kernel_rfl) hS0 (fun hHeld => ?_)
              clear q0 q1
              refine wpAnyH_take (i := 0) (oi := { dst := some 52, op := Op.move (Operand.tmp 5), type := 30, pos := "law.go:117", after := #[], guard := none }) (v := ?vv26) rfl (by kernel_rfl) (by kernel_rfl) (by kernel_rfl) (fun _ _ _ h => h) ?hy26 (by assumption) ?rest26
              case hy26 => (refine Or.inl ⟨by rfl, ?_⟩; intro W hSw; (try dsimp only at hSw); go_simp; (try with_reducible rfl))
              try simp only [Act.put, List.setIfInBounds_toArray, List.set_cons_zero, List.set_cons_succ]
              refine wpAnyH_take (i := 1) (oi := { dst := some 53, op := Op.move (Operand.tmp 9), type := 3, pos := "law.go:117", after := #[], guard := none }) (v := ?vv27) rfl (by kernel_rfl) (by kernel_rfl) (by kernel_rfl) (fun _ _ _ h => h) ?hy27 (by assumption) ?rest27
              case hy27 => (refine Or.inl ⟨by rfl, ?_⟩; intro W hSw; (try dsimp only at hSw); go_simp; (try with_reducible rfl))
              try simp only [Act.put, List.setIfInBounds_toArray, List.set_cons_zero, List.set_cons_succ]
              refine wpAnyH_take (i := 2) (oi := { dst := some 54, op := Op.indexAddr 30 (Operand.tmp 52) (Operand.tmp 53), type := 0, pos := "law.go:117", after := #[{ on := 0, ground := Ground.data }, { on := 1, ground := Ground.data }], guard := none }) (v := ?vv28) rfl (by kernel_rfl) (by kernel_rfl) (by kernel_rfl) (fun _ _ _ h => h) ?hy28 (by assumption) ?rest28
              case hy28 => (refine Or.inl ⟨by rfl, ?_⟩; intro W hSw; (try dsimp only at hSw); go_simp; (try with_reducible rfl))
              try simp only [Act.put, List.setIfInBounds_toArray, List.set_cons_zero, List.set_cons_succ]
              refine wpAnyH_take (i := 3) (oi := { dst := some 55, op := Op.load 3 (Operand.tmp 54), type := 3, pos := "law.go:117", after := #[{ on := 2, ground := Ground.data }], guard := none }) (v := ?vv29) rfl (by kernel_rfl) (by kernel_rfl) (by kernel_rfl) (fun _ _ _ h => h) ?hy29 (by assumption) ?rest29
              case hy29 => (refine Or.inl ⟨by rfl, ?_⟩; intro W hSw; (try dsimp only at hSw); go_simp; (try with_reducible rfl))
              try simp only [Act.put, List.setIfInBounds_toArray, List.set_cons_zero, List.set_cons_succ]
              refine wpAnyH_take (i := 4) (oi := { dst := some 56, op := Op.move (Operand.tmp 5), type := 30, pos := "law.go:117", after := #[], guard := none }) (v := ?vv30) rfl (by kernel_rfl) (by kernel_rfl) (by kernel_rfl) (fun _ _ _ h => h) ?hy30 (by assumption) ?rest30
              case hy30 => (refine Or.inl ⟨by rfl, ?_⟩; intro W hSw; (try dsimp only at hSw); go_simp; (try with_reducible rfl))
              try simp only [Act.put, List.setIfInBounds_toArray, List.set_cons_zero, List.set_cons_succ]
              refine wpAnyH_take (i := 5) (oi := { dst := some 57, op := Op.move (Operand.tmp 10), type := 3, pos := "law.go:117", after := #[], guard := none }) (v := ?vv31) rfl (by kernel_rfl) (by kernel_rfl) (by kernel_rfl) (fun _ _ _ h => h) ?hy31 (by assumption) ?rest31
              case hy31 => (refine Or.inl ⟨by rfl, ?_⟩; intro W hSw; (try dsimp only at hSw); go_simp; (try with_reducible rfl))
              try simp only [Act.put, List.setIfInBounds_toArray, List.set_cons_zero, List.set_cons_succ]
              refine wpAnyH_take (i := 6) (oi := { dst := some 58, op := Op.indexAddr 30 (Operand.tmp 56) (Operand.tmp 57), type := 0, pos := "law.go:117", after := #[{ on := 4, ground := Ground.data }, { on := 5, ground := Ground.data }], guard := none }) (v := ?vv32) rfl (by kernel_rfl) (by kernel_rfl) (by kernel_rfl) (fun _ _ _ h => h) ?hy32 (by assumption) ?rest32
              case hy32 => (refine Or.inl ⟨by rfl, ?_⟩; intro W hSw; (try dsimp only at hSw); go_simp; (try with_reducible rfl))
              try simp only [Act.put, List.setIfInBounds_toArray, List.set_cons_zero, List.set_cons_succ]
              refine wpAnyH_take (i := 7) (oi := { dst := some 59, op := Op.load 3 (Operand.tmp 58), type := 3, pos := "law.go:117", after := #[{ on := 6, ground := Ground.data }], guard := none }) (v := ?vv33) rfl (by kernel_rfl) (by kernel_rfl) (by kernel_rfl) (fun _ _ _ h => h) ?hy33 (by assumption) ?rest33
              case hy33 => (refine Or.inl ⟨by rfl, ?_⟩; intro W hSw; (try dsimp only at hSw); go_simp; (try with_reducible rfl))
              try simp only [Act.put, List.setIfInBounds_toArray, List.set_cons_zero, List.set_cons_succ]
              refine wpAnyH_take (i := 8) (oi := { dst := some 60, op := Op.move (Operand.tmp 4), type := 43, pos := "law.go:117", after := #[], guard := none }) (v := ?vv34) rfl (by kernel_rfl) (by kernel_rfl) (by kernel_rfl) (fun _ _ _ h => h) ?hy34 (by assumption) ?rest34
              case hy34 => (refine Or.inl ⟨by rfl, ?_⟩; intro W hSw; (try dsimp only at hSw); go_simp; (try with_reducible rfl))
              try simp only [Act.put, List.setIfInBounds_toArray, List.set_cons_zero, List.set_cons_succ]
              refine wpAnyH_ready (rs := [9]) (by kernel_rfl) (by simp) ?_
              refine AllReadyH.cons (o := { dst := some 61, op := Op.call { callee := Callee.value (Operand.func 20), args := #[Operand.tmp 55, Operand.tmp 59, Operand.tmp 60], argTypes := #[3, 3, 43] }, type := 4, pos := "law.go:117", after := #[{ on := 3, ground := Ground.data }, { on := 7, ground := Ground.data }, { on := 8, ground := Ground.data }], guard := none }) rfl (fun K hK => ?step35) ?more35
              case more35 => exact AllReadyH.nil
              ((go_simp; go_at_call 20; refine (HA.out).mono ?_; rintro e w7 ⟨rfl, hb7⟩; go_wp2_with fail))
              refine hK.out _ _ ?hS35 (fun hHeld => ?rr35)
              case hS35 => (exact HSK.out _ hb7)
              clear hK K
              try simp only [Act.put, List.setIfInBounds_toArray, List.set_cons_zero, List.set_cons_succ]
              skip
              refine wpAnyH_take (i := 10) (oi := { dst := some 62, op := Op.move (Operand.tmp 61), type := 4, pos := "law.go:117", after := #[{ on := 9, ground := Ground.data }, { on := 9, ground := Ground.chain }], guard := none }) (v := ?vv36) rfl (by kernel_rfl) (by kernel_rfl) (by kernel_rfl) (fun _ _ _ h => h) ?hy36 (by assumption) ?rest36
              case hy36 => (refine Or.inl ⟨by rfl, ?_⟩; intro W hSw; (try dsimp only at hSw); go_simp; (try with_reducible rfl))
              try simp only [Act.put, List.setIfInBounds_toArray, List.set_cons_zero, List.set_cons_succ]
              refine wpAnyH_take (i := 11) (oi := { dst := some 63, op := Op.move (Operand.tmp 3), type := 44, pos := "law.go:117", after := #[{ on := 10, ground := Ground.guard }], guard := some (10, false) }) (v := ?vv37) rfl (by kernel_rfl) (by kernel_rfl) (by kernel_rfl) (fun _ _ _ h => h) ?hy37 (by assumption) ?rest37
              case hy37 => (refine Or.inl ⟨by rfl, ?_⟩; intro W hSw; (try dsimp only at hSw); go_simp; (try with_reducible rfl))
              try simp only [Act.put, List.setIfInBounds_toArray, List.set_cons_zero, List.set_cons_succ]
              refine wpAnyH_ready (rs := [12]) (by kernel_rfl) (by simp) ?_
              refine AllReadyH.cons (o := { dst := some 64, op := Op.call { callee := Callee.value (Operand.func 18), args := #[Operand.tmp 63], argTypes := #[44] }, type := 4, pos := "law.go:117", after := #[{ on := 11, ground := Ground.data }, { on := 10, ground := Ground.chain }, { on := 10, ground := Ground.guard }], guard := some (10, false) }) rfl (fun K hK => ?step38) ?more38
              case more38 => exact AllReadyH.nil
              ((go_simp; go_at_call 18; refine (HRI.out w7 hb7).mono ?_; rintro e w8 ⟨rfl, hb8⟩; go_wp2_with fail))
              refine hK.out _ _ ?hS38 (fun hHeld => ?rr38)
              case hS38 => (exact HSK.out _ (hb7.trans (hb8.mono hb7.size)))
              clear hK K
              try simp only [Act.put, List.setIfInBounds_toArray, List.set_cons_zero, List.set_cons_succ]
              refine wpAnyH_take (i := 13) (oi := { dst := some 65, op := Op.move (Operand.tmp 64), type := 4, pos := "law.go:117", after := #[{ on := 12, ground := Ground.data }, { on := 12, ground := Ground.chain }, { on := 10, ground := Ground.guard }], guard := some (10, false) }) (v := ?vv39) rfl (by kernel_rfl) (by kernel_rfl) (by kernel_rfl) (fun _ _ _ h => h) ?hy39 (by assumption) ?rest39
              case hy39 => (refine Or.inl ⟨by rfl, ?_⟩; intro W hSw; (try dsimp only at hSw); go_simp; (try with_reducible rfl))
              try simp only [Act.put, List.setIfInBounds_toArray, List.set_cons_zero, List.set_cons_succ]
              refine wpAnyH_take (i := 14) (oi := { dst := some 66, op := Op.move (Operand.tmp 5), type := 30, pos := "law.go:117", after := #[{ on := 13, ground := Ground.guard }], guard := some (13, true) }) (v := undef) rfl (by kernel_rfl) (by kernel_rfl) (by kernel_rfl) (fun _ _ _ h => h) ?hy40 (by assumption) ?rest40
              case hy40 => (exact Or.inr ⟨by rfl, rfl⟩)
              try simp only [Act.put, List.setIfInBounds_toArray, List.set_cons_zero, List.set_cons_succ]
              refine wpAnyH_take (i := 15) (oi := { dst := some 67, op := Op.move (Operand.tmp 10), type := 3, pos := "law.go:117", after := #[{ on := 13, ground := Ground.guard }], guard := some (13, true) }) (v := undef) rfl (by kernel_rfl) (by kernel_rfl) (by kernel_rfl) (fun _ _ _ h => h) ?hy41 (by assumption) ?rest41
              case hy41 => (exact Or.inr ⟨by rfl, rfl⟩)
              try simp only [Act.put, List.setIfInBounds_toArray, List.set_cons_zero, List.set_cons_succ]
              refine wpAnyH_take (i := 16) (oi := { dst := some 68, op := Op.indexAddr 30 (Operand.tmp 66) (Operand.tmp 67), type := 0, pos := "law.go:117", after := #[{ on := 14, ground := Ground.data }, { on := 15, ground := Ground.data }, { on := 13, ground := Ground.guard }], guard := some (13, true) }) (v := undef) rfl (by kernel_rfl) (by kernel_rfl) (by kernel_rfl) (fun _ _ _ h => h) ?hy42 (by assumption) ?rest42
              case hy42 => (exact Or.inr ⟨by rfl, rfl⟩)
              try simp only [Act.put, List.setIfInBounds_toArray, List.set_cons_zero, List.set_cons_succ]
              refine wpAnyH_take (i := 17) (oi := { dst := some 69, op := Op.load 3 (Operand.tmp 68), type := 3, pos := "law.go:117", after := #[{ on := 16, ground := Ground.data }, { on := 13, ground := Ground.guard }], guard := some (13, true) }) (v := undef) rfl (by kernel_rfl) (by kernel_rfl) (by kernel_rfl) (fun _ _ _ h => h) ?hy43 (by assumption) ?rest43
              case hy43 => (exact Or.inr ⟨by rfl, rfl⟩)
              try simp only [Act.put, List.setIfInBounds_toArray, List.set_cons_zero, List.set_cons_succ]
              refine wpAnyH_take (i := 18) (oi := { dst := some 70, op := Op.move (Operand.tmp 5), type := 30, pos := "law.go:117", after := #[{ on := 13, ground := Ground.guard }], guard := some (13, true) }) (v := undef) rfl (by kernel_rfl) (by kernel_rfl) (by kernel_rfl) (fun _ _ _ h => h) ?hy44 (by assumption) ?rest44
              case hy44 => (exact Or.inr ⟨by rfl, rfl⟩)
              try simp only [Act.put, List.setIfInBounds_toArray, List.set_cons_zero, List.set_cons_succ]
              refine wpAnyH_take (i := 19) (oi := { dst := some 71, op := Op.move (Operand.tmp 9), type := 3, pos := "law.go:117", after := #[{ on := 13, ground := Ground.guard }], guard := some (13, true) }) (v := undef) rfl (by kernel_rfl) (by kernel_rfl) (by kernel_rfl) (fun _ _ _ h => h) ?hy45 (by assumption) ?rest45
              case hy45 => (exact Or.inr ⟨by rfl, rfl⟩)
              try simp only [Act.put, List.setIfInBounds_toArray, List.set_cons_zero, List.set_cons_succ]
              refine wpAnyH_take (i := 20) (oi := { dst := some 72, op := Op.indexAddr 30 (Operand.tmp 70) (Operand.tmp 71), type := 0, pos := "law.go:117", after := #[{ on := 18, ground := Ground.data }, { on := 19, ground := Ground.data }, { on := 13, ground := Ground.guard }], guard := some (13, true) }) (v := undef) rfl (by kernel_rfl) (by kernel_rfl) (by kernel_rfl) (fun _ _ _ h => h) ?hy46 (by assumption) ?rest46
              case hy46 => (exact Or.inr ⟨by rfl, rfl⟩)
              try simp only [Act.put, List.setIfInBounds_toArray, List.set_cons_zero, List.set_cons_succ]
              refine wpAnyH_take (i := 21) (oi := { dst := some 73, op := Op.load 3 (Operand.tmp 72), type := 3, pos := "law.go:117", after := #[{ on := 20, ground := Ground.data }, { on := 13, ground := Ground.guard }], guard := some (13, true) }) (v := undef) rfl (by kernel_rfl) (by kernel_rfl) (by kernel_rfl) (fun _ _ _ h => h) ?hy47 (by assumption) ?rest47
              case hy47 => (exact Or.inr ⟨by rfl, rfl⟩)
              try simp only [Act.put, List.setIfInBounds_toArray, List.set_cons_zero, List.set_cons_succ]
              refine wpAnyH_take (i := 22) (oi := { dst := some 74, op := Op.binOp BinOp.geq 3 (Operand.tmp 69) (Operand.tmp 73) 3, type := 4, pos := "law.go:117", after := #[{ on := 17, ground := Ground.data }, { on := 21, ground := Ground.data }, { on := 13, ground := Ground.guard }], guard := some (13, true) }) (v := undef) rfl (by kernel_rfl) (by kernel_rfl) (by kernel_rfl) (fun _ _ _ h => h) ?hy48 (by assumption) ?rest48
              case hy48 => (exact Or.inr ⟨by rfl, rfl⟩)
              try simp only [Act.put, List.setIfInBounds_toArray, List.set_cons_zero, List.set_cons_succ]
              refine wpAnyH_take (i := 23) (oi := { dst := some 75, op := Op.pick (Operand.tmp 65) (Operand.tmp 74) (Operand.const (Value.bool false)), type := 4, pos := "law.go:117", after := #[{ on := 13, ground := Ground.data }, { on := 22, ground := Ground.data }, { on := 10, ground := Ground.guard }], guard := some (10, false) }) (v := ?vv49) rfl (by kernel_rfl) (by kernel_rfl) (by kernel_rfl) (fun _ _ _ h => h) ?hy49 (by assumption) ?rest49
              case hy49 => (refine Or.inl ⟨by rfl, ?_⟩; intro W hSw; (try dsimp only at hSw); go_simp; (try with_reducible rfl))
              try simp only [Act.put, List.setIfInBounds_toArray, List.set_cons_zero, List.set_cons_succ]
              refine wpAnyH_take (i := 24) (oi := { dst := some 76, op := Op.pick (Operand.tmp 62) (Operand.const (Value.bool true)) (Operand.tmp 75), type := 4, pos := "law.go:117", after := #[{ on := 10, ground := Ground.data }, { on := 23, ground := Ground.data }], guard := none }) (v := ?vv50) rfl (by kernel_rfl) (by kernel_rfl) (by kernel_rfl) (fun _ _ _ h => h) ?hy50 (by assumption) ?rest50
              case hy50 => (refine Or.inl ⟨by rfl, ?_⟩; intro W hSw; (try dsimp only at hSw); go_simp; (try with_reducible rfl))
              try simp only [Act.put, List.setIfInBounds_toArray, List.set_cons_zero, List.set_cons_succ]
              refine wpAnyH_done (by kernel_rfl) ?_ _
              have HB8 := Lib.hid (HBk.out.trans ((hb7.trans (hb8.mono hb7.size)).mono HBk.out.size))
              clear hHeld hb7 hb8
              go_wp2_with fail
              go_roundw
              case rel => exact ⟨k + 1, HLk.out, by go_num, HB8.out⟩
              case measure => have := HLk.out; simp [intOf]; omega
        · obtain rfl : k = i := by omega
          have HBF := Lib.hid (And.intro (HBi.out.trans (hb.mono HBi.out.size)) (HSi.out.below hb))
          clear hb hlk hki
          go_wp2_with fail
          go_roundw
          case rel => exact ⟨k + 1, HLi.out, by go_num, HBF.out⟩
          case measure => have := HLi.out; simp [intOf]; omega
    · obtain rfl : i = o.length := by omega
      have HRF := Lib.hid (HRIS.out wr hb)
      have HBF := Lib.hid (HB1.out.trans (hb.mono HB1.out.size))
      clear hs hb hil hlt
      go_wp2_with fail
      refine (HRF.out).mono ?_
      rintro e w8 ⟨rfl, hb8⟩
      have HB8 := Lib.hid (HBF.out.trans (hb8.mono HBF.out.size))
      have HAW := Lib.hid (awakeO_any w8)
      clear hb8 HRF
      cases rb with
      | true =>
        obtain rfl : b = true := (HUP.out rfl).1
        go_wp2_with fail
        refine (HAW.out).mono ?_
        rintro e w9 ⟨rfl, hb9⟩
        have HB9 := Lib.hid (HB8.out.trans (hb9.mono HB8.out.size))
        clear hb9
        go_wp2_with fail
        go_ret
        first | exact HB9.out | exact ⟨rfl, HB9.out⟩
      | false =>
        go_wp2_with fail
        refine (HAW.out).mono ?_
        rintro e w9 ⟨rfl, hb9⟩
        have HB9 := Lib.hid (HB8.out.trans (hb9.mono HB8.out.size))
        clear hb9
        go_wp2_with fail
        go_ret
        first | exact HB9.out | exact ⟨rfl, HB9.out⟩
end Go.Proofs.Ytlbhpeeggbfcpaa
