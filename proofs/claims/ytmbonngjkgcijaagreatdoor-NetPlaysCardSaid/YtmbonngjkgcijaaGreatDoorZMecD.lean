/- ops.Encode. mess.May at any message. (genmecb.py wrote its walk.) -/
import Derived.Test.YtmbonngjkgcijaaGreatDoorZMeaQ
set_option linter.unusedSimpArgs false
set_option linter.unusedVariables false
set_option linter.unnecessarySimpa false
namespace Go.Proofs.YtmbonngjkgcijaaGreatDoor
open Go.RowKit Go.Shelf

theorem oper_app_run {P : Program} {w w' : World} {o : Oper} {a : Act} {K : Act → World → Prop} {Q : Exit → Act → World → Prop} (s x : Operand) (T tx : TypeId) (ho : o.op = .call { callee := .builtin .append, args := #[s, x], argTypes := #[T, tx] }) {u v v' : Value} (hs : a.eval s = u) (hx : a.eval x = v) (hrun : (Builtin.append_ #[T, tx] o.type #[u, v]).run P w = .ok v' w') (hK : K (a.put o.dst v') w') {c : Bool} (hc : c = true) {E : Prop} : if c = true then Oper.wp P o a w K Q else E := by
  rw [if_pos hc]
  unfold Oper.wp execOp
  simp only [ho, resolve, invoke, builtin, Sem.run_bind, Sem.run_pure, Result.andThen_ok, List.map_toArray, List.map_cons, List.map_nil, hs, hx, hrun]
  exact hK
theorem strB_ne (s : ByteArray) : strB s ≠ [] := by unfold strB natB; simp
/-- Operations that can be put into bytes: no kind below nought. -/
def OpsOk (l : List OpV) : Prop := ∀ o ∈ l, 0 ≤ o.k ∧ o.s.size ≤ 1000 ∧ OpIn o
theorem opB_le' {o : OpV} (h : o.s.size ≤ 1000) (h0 : 0 ≤ o.k) (hi : OpIn o) : (opB o).length ≤ 1100 := by
  have a1 := natB_le o.k.toNat (by have := hi.k.2; omega)
  have a2 := natB_le o.s.size (by omega)
  have a3 := natB_le _ (numN_le' hi.n.1 hi.n.2)
  have a4 := natB_le _ (numN_le' hi.lo.1 hi.lo.2)
  have a5 := size_list o.s
  unfold opB strB
  simp only [List.length_append]
  omega
set_option maxRecDepth 100000 in
set_option maxHeartbeats 4000000 in
theorem opsenc_any {w : World} {v : Value} {l : List OpV} (h : OpsAt w v l) (hx : OpsOk l) (hl : l.length ≤ 1000) :
    Calls Tryz.prog 147 #[v] w fun e w' => ∃ v', e = .returned v' ∧ OwnBy w' w.heap.size v' (opsB l) ∧ Below w.heap.size w w' := by
  obtain ⟨A, cap, rfl, hc1, hc2, hcell⟩ := h.form
  unfold maxLen at hc2
  have HC := Lib.hid hcell
  have HX := Lib.hid hx
  obtain ⟨m, hm⟩ : ∃ m, l.length = m := ⟨_, rfl⟩
  have HM := Lib.hid hm
  rw [hm] at hc1 hl ⊢
  have hmI : (m : Int) ≤ 1000 := by omega
  have hmw : IntKind.u64.wrap (m : Int) = (m : Int) := by rw [IntKind.wrap_u64]; omega
  have HNT := Lib.hid (onat_any m (by omega) w)
  have HN9 := Lib.hid (natB_le m (by omega))
  clear hcell hx hm h
  go_enter Tryz.func147, Tryz.ntmps147
  go_wp2_with fail
  refine (HNT.out).mono ?_
  rintro e w1 ⟨v1, rfl, ho1, hb1⟩
  have HO1 := Lib.hid ho1
  have HB1 := Lib.hid hb1
  obtain ⟨A1, c1, rfl⟩ := ho1.len
  clear ho1 hb1 HNT hmw
  go_wp2_with fail
  go_loopw [3, 12] (fun bv iv wr => ∃ (i : Nat) (B : List UInt8), i ≤ m ∧ iv = .int .i64 i ∧ B = natB m ++ (l.take i).flatMap opB ∧ B.length ≤ 9 + i * 1100 ∧ OwnBy wr w.heap.size bv B ∧ Below w.heap.size w wr) (fun _ iv _ => m - (intOf iv).toNat)
  case atStart => exact ⟨0, _, Nat.zero_le _, rfl, by simp, by simpa using HN9.out, HO1.out, HB1.out⟩
  case round =>
    obtain ⟨i, B, hi, rfl, hB, hBl, ho, hbw⟩ := hrel
    by_cases hlt : i < m
    · obtain ⟨o, hoi⟩ : ∃ o, l[i]? = some o := ⟨_, List.getElem?_eq_getElem (by rw [HM.out]; exact hlt)⟩
      obtain ⟨a, rfl, q1, k0, k1, k2, k3⟩ := HC.out i o hoi
      have hblk : (a.add (i * 4)).block < w.heap.size := by rw [add_block]; exact q1
      replace k0 := (hbw.cell hblk).trans k0
      replace k1 := (hbw.cell (p := ⟨(a.add (i * 4)).block, (a.add (i * 4)).off + 1, none⟩) hblk).trans k1
      replace k2 := (hbw.cell (p := ⟨(a.add (i * 4)).block, (a.add (i * 4)).off + 2, none⟩) hblk).trans k2
      replace k3 := (hbw.cell (p := ⟨(a.add (i * 4)).block, (a.add (i * 4)).off + 3, none⟩) hblk).trans k3
      obtain ⟨g0, g1, g2⟩ := HX.out o (List.mem_of_getElem? hoi)
      have hol := opB_le' g1 g0 g2
      have HOL := Lib.hid (show B.length + (opB o).length ≤ 1073741824 ∧ natB m ++ (l.take (i + 1)).flatMap opB = B ++ opB o ∧ (B ++ opB o).length ≤ 9 + (i + 1) * 1100 from ⟨by omega, by rw [flat_snocM hoi, hB, List.append_assoc], by rw [List.length_append]; omega⟩)
      obtain ⟨kd, s, n, lo⟩ := o
      simp only at k0 k1 k2 k3 g0 g1
      obtain ⟨kn, rfl⟩ : ∃ kn : Nat, kd = kn := ⟨kd.toNat, by omega⟩
      have hkn : kn ≤ 9223372036854775807 := by have := g2.k.2; simp only at this; omega
      have HKW : IntKind.u64.wrap (kn : Int) = (kn : Int) := by rw [IntKind.wrap_u64]; omega
      obtain ⟨W1, hW1e⟩ : ∃ W1, W1 = wr.alloc (.cells #[.int .i64 kn, .string s, .int .i64 n, .int .i64 lo] 168) := ⟨_, rfl⟩
      have hW1 := below_new (w := wr) (.cells #[.int .i64 kn, .string s, .int .i64 n, .int .i64 lo] 168)
      have hat := alloc_at wr (.cells #[.int .i64 kn, .string s, .int .i64 n, .int .i64 lo] 168)
      rw [← hW1e] at hW1 hat
      have HSW : Hid (∀ W, Below W1.heap.size W1 W → W.cell? ⟨wr.heap.size, 0, none⟩ = some (.int .i64 kn) ∧ W.cell? ⟨wr.heap.size, 1, none⟩ = some (.string s) ∧ W.cell? ⟨wr.heap.size, 2, none⟩ = some (.int .i64 n) ∧ W.cell? ⟨wr.heap.size, 3, none⟩ = some (.int .i64 lo)) := Lib.hid (fun W hW => ⟨(hW.cell (p := ⟨wr.heap.size, 0, none⟩) (heap_lt hat)).trans (cell_of hat 0), (hW.cell (p := ⟨wr.heap.size, 1, none⟩) (heap_lt hat)).trans (cell_of hat 1), (hW.cell (p := ⟨wr.heap.size, 2, none⟩) (heap_lt hat)).trans (cell_of hat 2), (hW.cell (p := ⟨wr.heap.size, 3, none⟩) (heap_lt hat)).trans (cell_of hat 3)⟩)
      have HBW := Lib.hid (hbw.trans (hW1.mono hbw.size))
      have HOW := Lib.hid (ho.below hW1)
      have HNK := Lib.hid (onat_any kn (by omega) W1.drew)
      have HST := Lib.hid (fun W => ostr_any s (by omega) W)
      have HNU := Lib.hid (fun W => onum_any n g2.n.1 g2.n.2 W)
      have HLO := Lib.hid (fun W => onum_any lo g2.lo.1 g2.lo.2 W)
      have HQL : Hid ([natB kn, strB s, natB (numN n), natB (numN lo)].flatten.length ≤ 536870912 ∧ [natB kn, strB s, natB (numN n), natB (numN lo)].flatten = opB ⟨kn, s, n, lo⟩) := Lib.hid (by
        have e : [natB kn, strB s, natB (numN n), natB (numN lo)].flatten = opB ⟨kn, s, n, lo⟩ := by simp [opB]
        rw [e]
        exact ⟨by omega, rfl⟩)
      obtain ⟨Ab, cb, rfl⟩ := ho.len
      have HNE : Hid (∀ g, (Value.slice Ab B.length cb).ownBlock = some g → g ≠ wr.heap.size) := Lib.hid (fun g e => by
        rcases ho with ⟨e1, _⟩ | ⟨g', cap', e1, h⟩
        · rw [e1] at e; cases e
        · rw [e1] at e
          have e : g' = g := Option.some.inj e
          have := h.lt
          omega)
      have hiI : (i : Int) < (m : Int) := by omega
      have HLT := Lib.hid hlt
      have HW1E := Lib.hid hW1e
      clear hoi q1 hblk g0 g1 g2 hol hB hBl ho hbw hlt hi hW1 hat hkn
      go_wp2_with fail
      rw [← HW1E.out]
      clear hW1e k0 k1 k2 k3
      refine wp_only ?_
      refine wp_region_held_drew (S := fun W => W.cell? ⟨wr.heap.size, 0, none⟩ = some (.int .i64 kn) ∧ W.cell? ⟨wr.heap.size, 1, none⟩ = some (.string s) ∧ W.cell? ⟨wr.heap.size, 2, none⟩ = some (.int .i64 n) ∧ W.cell? ⟨wr.heap.size, 3, none⟩ = some (.int .i64 lo)) (by kernel_rfl) (HSW.out _ (below_drew (Below.refl _ _))) (fun hHeld => ?_)
      refine tkH (i := 0) (oi := { dst := some 16, op := .move (.tmp 3), type := 54, pos := "bytes.go:15", after := #[], guard := none }) (v := ?vv1) ?hy1 ?rest1
      case hy1 => (refine Or.inl ⟨by rfl, ?_⟩; intro W hSw; (try dsimp only at hSw); go_simp; (try with_reducible rfl))
      try simp only [Act.put, pzz]
      refine tkH (i := 1) (oi := { dst := some 17, op := .fieldAddr 168 (.tmp 5) 0, type := 0, pos := "bytes.go:15", after := #[], guard := none }) (v := ?vv2) ?hy2 ?rest2
      case hy2 => (refine Or.inl ⟨by rfl, ?_⟩; intro W hSw; (try dsimp only at hSw); go_simp; (try with_reducible rfl))
      try simp only [Act.put, pzz]
      refine tkH (i := 2) (oi := { dst := some 18, op := .load 3 (.tmp 17), type := 3, pos := "bytes.go:15", after := #[⟨1, .data⟩], guard := none }) (v := ?vv3) ?hy3 ?rest3
      case hy3 => (refine Or.inl ⟨by rfl, ?_⟩; intro W hSw; (try dsimp only at hSw); go_simp; (try with_reducible rfl))
      try simp only [Act.put, pzz]
      refine tkH (i := 3) (oi := { dst := some 19, op := .convert 3 175 (.tmp 18), type := 175, pos := "bytes.go:15", after := #[⟨2, .data⟩], guard := none }) (v := ?vv4) ?hy4 ?rest4
      case hy4 => (refine Or.inl ⟨by rfl, ?_⟩; intro W hSw; (try dsimp only at hSw); go_simp; (try with_reducible rfl))
      try simp only [Act.put, pzz]
      refine tkH (i := 5) (oi := { dst := some 21, op := .fieldAddr 168 (.tmp 5) 1, type := 0, pos := "bytes.go:15", after := #[], guard := none }) (v := ?vv5) ?hy5 ?rest5
      case hy5 => (refine Or.inl ⟨by rfl, ?_⟩; intro W hSw; (try dsimp only at hSw); go_simp; (try with_reducible rfl))
      try simp only [Act.put, pzz]
      refine tkH (i := 6) (oi := { dst := some 22, op := .load 9 (.tmp 21), type := 9, pos := "bytes.go:15", after := #[⟨5, .data⟩], guard := none }) (v := ?vv6) ?hy6 ?rest6
      case hy6 => (refine Or.inl ⟨by rfl, ?_⟩; intro W hSw; (try dsimp only at hSw); go_simp; (try with_reducible rfl))
      try simp only [Act.put, pzz]
      refine tkH (i := 8) (oi := { dst := some 24, op := .fieldAddr 168 (.tmp 5) 2, type := 0, pos := "bytes.go:15", after := #[], guard := none }) (v := ?vv7) ?hy7 ?rest7
      case hy7 => (refine Or.inl ⟨by rfl, ?_⟩; intro W hSw; (try dsimp only at hSw); go_simp; (try with_reducible rfl))
      try simp only [Act.put, pzz]
      refine tkH (i := 9) (oi := { dst := some 25, op := .load 2 (.tmp 24), type := 2, pos := "bytes.go:15", after := #[⟨8, .data⟩], guard := none }) (v := ?vv8) ?hy8 ?rest8
      case hy8 => (refine Or.inl ⟨by rfl, ?_⟩; intro W hSw; (try dsimp only at hSw); go_simp; (try with_reducible rfl))
      try simp only [Act.put, pzz]
      refine tkH (i := 11) (oi := { dst := some 27, op := .fieldAddr 168 (.tmp 5) 3, type := 0, pos := "bytes.go:15", after := #[], guard := none }) (v := ?vv9) ?hy9 ?rest9
      case hy9 => (refine Or.inl ⟨by rfl, ?_⟩; intro W hSw; (try dsimp only at hSw); go_simp; (try with_reducible rfl))
      try simp only [Act.put, pzz]
      refine tkH (i := 12) (oi := { dst := some 28, op := .load 2 (.tmp 27), type := 2, pos := "bytes.go:15", after := #[⟨11, .data⟩], guard := none }) (v := ?vv10) ?hy10 ?rest10
      case hy10 => (refine Or.inl ⟨by rfl, ?_⟩; intro W hSw; (try dsimp only at hSw); go_simp; (try with_reducible rfl))
      try simp only [Act.put, pzz]
      refine wpAnyH_ready (rs := [4]) (by kernel_rfl) (by simp) ?_
      refine AllReadyH.cons (o := { dst := some 20, op := .call { callee := .value (.func 144), args := #[.tmp 19], argTypes := #[175] }, type := 54, pos := "bytes.go:15", after := #[⟨3, .data⟩], guard := none }) rfl (fun K hK => ?step11) ?more11
      case more11 => exact AllReadyH.nil
      ((go_simp; go_at_call 144; refine (HNK.out).mono ?_; rintro e w6 ⟨v6, rfl, ho6, hb6⟩; have HO6 := Lib.hid ho6; have HB6 := Lib.hid (below_of_drew hb6); obtain ⟨A6, c6, rfl⟩ := ho6.len; clear ho6 hb6; go_wp2_with fail))
      refine hK.out _ _ ?hS11 (fun hHeld => ?rr11)
      case hS11 => (exact HSW.out _ HB6.out)
      clear hK K
      try simp only [Act.put, pzz]
      refine wpAnyH_ready (rs := [7]) (by kernel_rfl) (by simp) ?_
      refine AllReadyH.cons (o := { dst := some 23, op := .call { callee := .value (.func 146), args := #[.tmp 22], argTypes := #[9] }, type := 54, pos := "bytes.go:15", after := #[⟨6, .data⟩, ⟨4, .chain⟩], guard := none }) rfl (fun K hK => ?step12) ?more12
      case more12 => exact AllReadyH.nil
      ((go_simp; go_at_call 146; refine (HST.out _).mono ?_; rintro e w7 ⟨v7, rfl, ho7, hb7⟩; have HO7 := Lib.hid ho7; have HB7 := Lib.hid (HB6.out.trans (hb7.mono HB6.out.size)); have HO67 := Lib.hid (HO6.out.below hb7); obtain ⟨A7, c7, rfl⟩ := ho7.len; clear ho7 hb7; go_wp2_with fail))
      refine hK.out _ _ ?hS12 (fun hHeld => ?rr12)
      case hS12 => (exact HSW.out _ HB7.out)
      clear hK K
      try simp only [Act.put, pzz]
      refine wpAnyH_ready (rs := [10]) (by kernel_rfl) (by simp) ?_
      refine AllReadyH.cons (o := { dst := some 26, op := .call { callee := .value (.func 167), args := #[.tmp 25], argTypes := #[2] }, type := 54, pos := "bytes.go:15", after := #[⟨9, .data⟩, ⟨7, .chain⟩], guard := none }) rfl (fun K hK => ?step13) ?more13
      case more13 => exact AllReadyH.nil
      ((go_simp; go_at_call 167; refine (HNU.out _).mono ?_; rintro e w8 ⟨v8, rfl, ho8, hb8⟩; have HO8 := Lib.hid ho8; have HB8 := Lib.hid (HB7.out.trans (hb8.mono HB7.out.size)); have HO68 := Lib.hid (HO67.out.below hb8); have HO78 := Lib.hid (HO7.out.below hb8); obtain ⟨A8, c8, rfl⟩ := ho8.len; clear ho8 hb8; go_wp2_with fail))
      refine hK.out _ _ ?hS13 (fun hHeld => ?rr13)
      case hS13 => (exact HSW.out _ HB8.out)
      clear hK K
      try simp only [Act.put, pzz]
      refine wpAnyH_ready (rs := [13]) (by kernel_rfl) (by simp) ?_
      refine AllReadyH.cons (o := { dst := some 29, op := .call { callee := .value (.func 167), args := #[.tmp 28], argTypes := #[2] }, type := 54, pos := "bytes.go:15", after := #[⟨12, .data⟩, ⟨10, .chain⟩], guard := none }) rfl (fun K hK => ?step14) ?more14
      case more14 => exact AllReadyH.nil
      ((go_simp; go_at_call 167; refine (HLO.out _).mono ?_; rintro e w9 ⟨v9, rfl, ho9, hb9⟩; have HO9 := Lib.hid ho9; have HB9 := Lib.hid (HB8.out.trans (hb9.mono HB8.out.size)); have HO69 := Lib.hid (HO68.out.below hb9); have HO79 := Lib.hid (HO78.out.below hb9); have HO89 := Lib.hid (HO8.out.below hb9); obtain ⟨A9, c9, rfl⟩ := ho9.len; clear ho9 hb9; go_wp2_with fail))
      refine hK.out _ _ ?hS14 (fun hHeld => ?rr14)
      case hS14 => (exact HSW.out _ HB9.out)
      clear hK K
      try simp only [Act.put, pzz]
      have hbn := below_new (w := w9) (.cells #[.slice A6 (natB kn).length c6, .slice A7 (strB s).length c7, .slice A8 (natB (numN n)).length c8, .slice A9 (natB (numN lo)).length c9] 54)
      have hat8 := alloc_at w9 (.cells #[.slice A6 (natB kn).length c6, .slice A7 (strB s).length c7, .slice A8 (natB (numN n)).length c8, .slice A9 (natB (numN lo)).length c9] 54)
      have HSQ := Lib.hid (oseq_any (v := .slice (some ⟨w9.heap.size, 0, none⟩) 4 4) (ls := [natB kn, strB s, natB (numN n), natB (numN lo)]) (.inr ⟨w9.heap.size, 4, rfl, heap_lt hat8, by simp, fun x y hxy => by
        match x, hxy with
        | 0, hxy =>
          obtain rfl := Option.some.inj hxy
          exact ⟨natB_ne _, _, cell_of hat8 0, (HO69.out.below hbn).lower (Nat.zero_le _)⟩
        | 1, hxy =>
          obtain rfl := Option.some.inj hxy
          exact ⟨strB_ne _, _, cell_of hat8 1, (HO79.out.below hbn).lower (Nat.zero_le _)⟩
        | 2, hxy =>
          obtain rfl := Option.some.inj hxy
          exact ⟨natB_ne _, _, cell_of hat8 2, (HO89.out.below hbn).lower (Nat.zero_le _)⟩
        | 3, hxy =>
          obtain rfl := Option.some.inj hxy
          exact ⟨natB_ne _, _, cell_of hat8 3, (HO9.out.below hbn).lower (Nat.zero_le _)⟩⟩) HQL.out.1)
      have HBX := Lib.hid (HB9.out.trans (hbn.mono HB9.out.size))
      clear hbn hat8
      refine wpAnyH_ready (rs := [14]) (by kernel_rfl) (by simp) ?_
      refine AllReadyH.cons (o := { dst := some 30, op := .buildSlice 239 4 #[(0, .tmp 20), (1, .tmp 23), (2, .tmp 26), (3, .tmp 29)], type := 239, pos := "bytes.go:15", after := #[⟨4, .data⟩, ⟨7, .data⟩, ⟨10, .data⟩, ⟨13, .data⟩], guard := none }) rfl (fun K hK => ?step15) ?more15
      case more15 => exact AllReadyH.nil
      ((go_simp))
      refine hK.out _ _ ?hS15 (fun hHeld => ?rr15)
      case hS15 => (exact HSW.out _ HBX.out)
      clear hK K
      try simp only [Act.put, pzz]
      refine wpAnyH_ready (rs := [15]) (by kernel_rfl) (by simp) ?_
      refine AllReadyH.cons (o := { dst := some 31, op := .call { callee := .value (.func 168), args := #[.tmp 30], argTypes := #[239] }, type := 54, pos := "bytes.go:15", after := #[⟨14, .data⟩, ⟨13, .chain⟩], guard := none }) rfl (fun K hK => ?step16) ?more16
      case more16 => exact AllReadyH.nil
      ((go_simp; go_at_call 168; refine (HSQ.out).mono ?_; rintro e wy ⟨vy, rfl, hoy, hby⟩; rw [HQL.out.2] at hoy; have HOY := Lib.hid hoy; have HBY := Lib.hid (HBX.out.trans (hby.mono HBX.out.size)); obtain ⟨Ay, cy, rfl⟩ := hoy.len; clear hoy hby; go_wp2_with fail))
      refine hK.out _ _ ?hS16 (fun hHeld => ?rr16)
      case hS16 => (exact HSW.out _ HBY.out)
      clear hK K
      try simp only [Act.put, pzz]
      obtain ⟨va, wa, hra, hoa, hga⟩ := run_append_by wy w.heap.size 54 54 _ B (opB ⟨kn, s, n, lo⟩) _ (HOW.out.below HBY.out) (src_any HOY.out) HOL.out.1 (Nat.le_trans HBW.out.size HBY.out.size)
      have HRA := Lib.hid hra
      have HBA := Lib.hid ((HBW.out.trans (HBY.out.mono HBW.out.size)).grown hga (Nat.le_trans HBW.out.size HBY.out.size) HOW.out.rows)
      have HSA : Hid (wa.cell? ⟨wr.heap.size, 0, none⟩ = some (.int .i64 kn) ∧ wa.cell? ⟨wr.heap.size, 1, none⟩ = some (.string s) ∧ wa.cell? ⟨wr.heap.size, 2, none⟩ = some (.int .i64 n) ∧ wa.cell? ⟨wr.heap.size, 3, none⟩ = some (.int .i64 lo)) := Lib.hid (by
        obtain ⟨h0, h1, h2, h3⟩ := HSW.out _ HBY.out
        have hk := hga.block wr.heap.size (World.block_lt_of_cell? _ _ h0) (fun e => HNE.out _ e.symm rfl)
        exact ⟨(World.cell?_of_block (a := ⟨wr.heap.size, 0, none⟩) hk).trans h0, (World.cell?_of_block (a := ⟨wr.heap.size, 1, none⟩) hk).trans h1, (World.cell?_of_block (a := ⟨wr.heap.size, 2, none⟩) hk).trans h2, (World.cell?_of_block (a := ⟨wr.heap.size, 3, none⟩) hk).trans h3⟩)
      have HOA := Lib.hid hoa
      clear hra hga
      refine wpAnyH_ready (rs := [16]) (by kernel_rfl) (by simp) ?_
      refine AllReadyH.cons (o := { dst := some 32, op := .call { callee := .builtin .append, args := #[.tmp 16, .tmp 31], argTypes := #[54, 54] }, type := 54, pos := "bytes.go:15", after := #[⟨0, .data⟩, ⟨15, .data⟩, ⟨15, .chain⟩], guard := none }) rfl (fun K hK => ?step17) ?more17
      case more17 => exact AllReadyH.nil
      ((refine oper_app_run _ _ _ _ rfl rfl rfl HRA.out ?_ (by kernel_rfl)))
      refine hK.out _ _ ?hS17 (fun hHeld => ?rr17)
      case hS17 => (exact HSA.out)
      clear hK K
      try simp only [Act.put, pzz]
      refine tkH (i := 17) (oi := { dst := some 3, op := .assign (.tmp 32), type := 54, pos := "bytes.go:15", after := #[⟨16, .data⟩, ⟨16, .chain⟩, ⟨0, .phase⟩, ⟨1, .phase⟩, ⟨2, .phase⟩, ⟨3, .phase⟩, ⟨4, .phase⟩, ⟨5, .phase⟩, ⟨6, .phase⟩, ⟨7, .phase⟩, ⟨8, .phase⟩, ⟨9, .phase⟩, ⟨10, .phase⟩, ⟨11, .phase⟩, ⟨12, .phase⟩, ⟨13, .phase⟩, ⟨14, .phase⟩, ⟨15, .phase⟩, ⟨16, .phase⟩], guard := none }) (v := ?vv18) ?hy18 ?rest18
      case hy18 => (refine Or.inl ⟨by rfl, ?_⟩; intro W hSw; (try dsimp only at hSw); go_simp; (try with_reducible rfl))
      try simp only [Act.put, pzz]
      refine wpAnyH_done (by kernel_rfl) ?_ _
      clear hHeld hoa
      dsimp only [onlyN]
      go_wp2_with fail
      go_roundw
      case rel => exact ⟨i + 1, _, HLT.out, by go_num, HOL.out.2.1.symm, HOL.out.2.2, HOA.out, HBA.out⟩
      case measure => have := HLT.out; simp [intOf]; omega
    · obtain rfl : i = m := by omega
      rw [List.take_of_length_le (by rw [HM.out]; omega)] at hB
      have en : natB i ++ l.flatMap opB = opsB l := by unfold opsB; rw [HM.out]
      rw [en] at hB
      subst hB
      have HO := Lib.hid ho
      have HB := Lib.hid hbw
      obtain ⟨Ab, cb, rfl⟩ := ho.len
      clear ho hBl hbw en
      go_wp2_with fail
      go_ret
      exact ⟨_, rfl, HO.out, HB.out⟩
end Go.Proofs.YtmbonngjkgcijaaGreatDoor

namespace Go.Proofs.YtmbonngjkgcijaaGreatDoor
open Go.RowKit Go.Shelf

/-- A message as a value, its lists wherever they lie. -/
def MsgIs (w : World) (v : Value) (m : MsgV) : Prop := ∃ tA tc oA oc, v = .agg #[.int .i64 m.kd, .int .i64 m.fr, .int .i64 m.tt, .int .i64 m.g, .int .i64 m.nd, .int .i64 m.tr, .int .i64 m.lw, .int .i64 m.co, .int .i64 m.ti, .slice tA m.tl.length tc, .slice oA m.os.length oc] ∧ NumsAt w (.slice tA m.tl.length tc) m.tl ∧ OpsAt w (.slice oA m.os.length oc) m.os ∧ KeysIn m.os
theorem MsgIs.below {w w' : World} {v : Value} {m : MsgV} (h : MsgIs w v m) (hb : Below w.heap.size w w') : MsgIs w' v m := by
  obtain ⟨tA, tc, oA, oc, e, h1, h2, h3⟩ := h
  exact ⟨tA, tc, oA, oc, e, h1.below hb, h2.below hb, h3⟩
set_option maxRecDepth 100000 in
set_option maxHeartbeats 4000000 in
theorem May_any {w : World} {v : Value} {m : MsgV} (hG : Glob w) (h : MsgIs w v m) :
    Calls Tryz.prog 63 #[v] w fun e w' => e = .returned (.bool (mayM m)) ∧ Below w.heap.size w w' := by
  obtain ⟨tA, tc, oA, oc, rfl, ht, ho, hk⟩ := h
  obtain ⟨kd, fr, tt, g, nd, tr, lw, co, ti, tl, os⟩ := m
  simp only at ht ho hk ⊢
  have HCK := Lib.hid (fun W (hW : Below w.heap.size w W) => Check_any (hG.below hW) (ho.below hW) hk)
  obtain ⟨tn, htn⟩ : ∃ n, tl.length = n := ⟨_, rfl⟩
  obtain ⟨on, hon⟩ : ∃ n, os.length = n := ⟨_, rfl⟩
  rw [hon] at HCK
  obtain ⟨ck, hck⟩ : ∃ c, checkO os = c := ⟨_, rfl⟩
  rw [hck] at HCK
  have HOF := Lib.hid (fun W => of_any' kd W)
  obtain ⟨kb, hkb⟩ : ∃ b, kindM kd = b := ⟨_, rfl⟩
  obtain ⟨lb, hlb⟩ : ∃ b, lowM kd = b := ⟨_, rfl⟩
  obtain ⟨yb, hyb⟩ : ∃ b, tryM kd = b := ⟨_, rfl⟩
  obtain ⟨ob, hob⟩ : ∃ b, opsM kd = b := ⟨_, rfl⟩
  obtain ⟨db, hdb⟩ : ∃ b, toldM kd = b := ⟨_, rfl⟩
  obtain ⟨cb, hcb⟩ : ∃ b, codeM kd = b := ⟨_, rfl⟩
  rw [hkb, hlb, hyb, hob, hdb, hcb] at HOF
  obtain ⟨f1, hf1⟩ : ∃ b, fitP (!lb) fr 1 3 = b := ⟨_, rfl⟩
  have HF1 := Lib.hid (fun W => fits_int (!lb) fr 1 3 W)
  rw [hf1] at HF1
  obtain ⟨f2, hf2⟩ : ∃ b, fitP lb tt 1 3 = b := ⟨_, rfl⟩
  have HF2 := Lib.hid (fun W => fits_int lb tt 1 3 W)
  rw [hf2] at HF2
  obtain ⟨f3, hf3⟩ : ∃ b, fitP true g 1 1048576 = b := ⟨_, rfl⟩
  have HF3 := Lib.hid (fun W => fits_int true g 1 1048576 W)
  rw [hf3] at HF3
  obtain ⟨f4, hf4⟩ : ∃ b, fitP true nd 0 255 = b := ⟨_, rfl⟩
  have HF4 := Lib.hid (fun W => fits_int true nd 0 255 W)
  rw [hf4] at HF4
  obtain ⟨f5, hf5⟩ : ∃ b, fitP yb tr 0 1048576 = b := ⟨_, rfl⟩
  have HF5 := Lib.hid (fun W => fits_int yb tr 0 1048576 W)
  rw [hf5] at HF5
  obtain ⟨f6, hf6⟩ : ∃ b, fitP lb lw 1 1048577 = b := ⟨_, rfl⟩
  have HF6 := Lib.hid (fun W => fits_int lb lw 1 1048577 W)
  rw [hf6] at HF6
  obtain ⟨f7, hf7⟩ : ∃ b, fitP cb co 1 99 = b := ⟨_, rfl⟩
  have HF7 := Lib.hid (fun W => fits_errno cb co 1 99 W)
  rw [hf7] at HF7
  obtain ⟨f8, hf8⟩ : ∃ b, fitP db ti 0 9223372036854775807 = b := ⟨_, rfl⟩
  have HF8 := Lib.hid (fun W => fits_i64 db ti 0 9223372036854775807 W)
  rw [hf8] at HF8
  obtain ⟨f9, hf9⟩ : ∃ b, fitP db (tn : Int) 0 8 = b := ⟨_, rfl⟩
  have HF9 := Lib.hid (fun W => fits_int db (tn : Int) 0 8 W)
  rw [hf9] at HF9
  obtain ⟨f10, hf10⟩ : ∃ b, fitP ob (on : Int) 0 8 = b := ⟨_, rfl⟩
  have HF10 := Lib.hid (fun W => fits_int ob (on : Int) 0 8 W)
  rw [hf10] at HF10
  have HE : Hid (mayM ⟨kd, fr, tt, g, nd, tr, lw, co, ti, tl, os⟩ = (kb && (f1 && (f2 && (f3 && (f4 && (f5 && (f6 && (f7 && (f8 && (f9 && (f10 && decide (ck = 0))))))))))))) := Lib.hid (by
    unfold mayM
    simp only
    rw [htn, hon, hck, hkb, hlb, hyb, hob, hdb, hcb, hf1, hf2, hf3, hf4, hf5, hf6, hf7, hf8, hf9, hf10])
  rw [htn, hon]
  have HT := Lib.hid htn
  have HON := Lib.hid hon
  clear ht ho hk hG htn hon hck hkb hlb hyb hob hdb hcb hf1 hf2 hf3 hf4 hf5 hf6 hf7 hf8 hf9 hf10
  have hb0 := below_new (w := w) (.cells #[.int .i64 kd, .int .i64 fr, .int .i64 tt, .int .i64 g, .int .i64 nd, .int .i64 tr, .int .i64 lw, .int .i64 co, .int .i64 ti, .slice tA tn tc, .slice oA on oc] 50)
  have HB0 := Lib.hid hb0
  have HAT := Lib.hid (alloc_at w (.cells #[.int .i64 kd, .int .i64 fr, .int .i64 tt, .int .i64 g, .int .i64 nd, .int .i64 tr, .int .i64 lw, .int .i64 co, .int .i64 ti, .slice tA tn tc, .slice oA on oc] 50))
  clear hb0
  go_enter Tryz.func63, Tryz.ntmps63
  go_wp2_with fail
  refine (HOF.out _).mono ?_
  rintro e w1 ⟨rfl, hb1⟩
  have HB1 := Lib.hid (HB0.out.trans (hb1.mono HB0.out.size))
  have hz : w.heap.size < w1.heap.size := by have := hb1.size; rw [asz] at this; omega
  have c1 : w1.cell? ⟨w.heap.size, 1, none⟩ = some (.int .i64 fr) := (hb1.cell (p := ⟨w.heap.size, 1, none⟩) (by show w.heap.size < _; rw [asz]; omega)).trans (cell_of HAT.out 1)
  have c2 : w1.cell? ⟨w.heap.size, 2, none⟩ = some (.int .i64 tt) := (hb1.cell (p := ⟨w.heap.size, 2, none⟩) (by show w.heap.size < _; rw [asz]; omega)).trans (cell_of HAT.out 2)
  have c3 : w1.cell? ⟨w.heap.size, 3, none⟩ = some (.int .i64 g) := (hb1.cell (p := ⟨w.heap.size, 3, none⟩) (by show w.heap.size < _; rw [asz]; omega)).trans (cell_of HAT.out 3)
  have c4 : w1.cell? ⟨w.heap.size, 4, none⟩ = some (.int .i64 nd) := (hb1.cell (p := ⟨w.heap.size, 4, none⟩) (by show w.heap.size < _; rw [asz]; omega)).trans (cell_of HAT.out 4)
  have c5 : w1.cell? ⟨w.heap.size, 5, none⟩ = some (.int .i64 tr) := (hb1.cell (p := ⟨w.heap.size, 5, none⟩) (by show w.heap.size < _; rw [asz]; omega)).trans (cell_of HAT.out 5)
  have c6 : w1.cell? ⟨w.heap.size, 6, none⟩ = some (.int .i64 lw) := (hb1.cell (p := ⟨w.heap.size, 6, none⟩) (by show w.heap.size < _; rw [asz]; omega)).trans (cell_of HAT.out 6)
  have c7 : w1.cell? ⟨w.heap.size, 7, none⟩ = some (.int .i64 co) := (hb1.cell (p := ⟨w.heap.size, 7, none⟩) (by show w.heap.size < _; rw [asz]; omega)).trans (cell_of HAT.out 7)
  have c8 : w1.cell? ⟨w.heap.size, 8, none⟩ = some (.int .i64 ti) := (hb1.cell (p := ⟨w.heap.size, 8, none⟩) (by show w.heap.size < _; rw [asz]; omega)).trans (cell_of HAT.out 8)
  have c9 : w1.cell? ⟨w.heap.size, 9, none⟩ = some (.slice tA tn tc) := (hb1.cell (p := ⟨w.heap.size, 9, none⟩) (by show w.heap.size < _; rw [asz]; omega)).trans (cell_of HAT.out 9)
  have c10 : w1.cell? ⟨w.heap.size, 10, none⟩ = some (.slice oA on oc) := (hb1.cell (p := ⟨w.heap.size, 10, none⟩) (by show w.heap.size < _; rw [asz]; omega)).trans (cell_of HAT.out 10)
  clear hb1
  have HBP := Lib.hid (HB1.out.trans ((below_new (w := w1) (.cells #[.bool yb, .bool lb, .bool ob, .bool db, .bool cb] 182)).mono HB1.out.size))
  cases kb with
  | false =>
    go_wp2_with fail
    go_ret
    exact ⟨ret_bool (by rw [HE.out]; rfl), HBP.out⟩
  | true =>

    go_wp2_with fail
    refine (HF1.out _).mono ?_
    rintro e w2 ⟨rfl, rfl⟩
    cases f1 with
    | false =>
      go_wp2_with fail
      go_ret
      exact ⟨ret_bool (by rw [HE.out]; rfl), HBP.out⟩
    | true =>
      go_wp2_with fail
      refine (HF2.out _).mono ?_
      rintro e w2 ⟨rfl, rfl⟩
      cases f2 with
      | false =>
        go_wp2_with fail
        go_ret
        exact ⟨ret_bool (by rw [HE.out]; rfl), HBP.out⟩
      | true =>
        go_wp2_with fail
        refine (HF3.out _).mono ?_
        rintro e w2 ⟨rfl, rfl⟩
        cases f3 with
        | false =>
          go_wp2_with fail
          go_ret
          exact ⟨ret_bool (by rw [HE.out]; rfl), HBP.out⟩
        | true =>
          go_wp2_with fail
          refine (HF4.out _).mono ?_
          rintro e w2 ⟨rfl, rfl⟩
          cases f4 with
          | false =>
            go_wp2_with fail
            go_ret
            exact ⟨ret_bool (by rw [HE.out]; rfl), HBP.out⟩
          | true =>
            go_wp2_with fail
            refine (HF5.out _).mono ?_
            rintro e w2 ⟨rfl, rfl⟩
            cases f5 with
            | false =>
              go_wp2_with fail
              go_ret
              exact ⟨ret_bool (by rw [HE.out]; rfl), HBP.out⟩
            | true =>
              go_wp2_with fail
              refine (HF6.out _).mono ?_
              rintro e w2 ⟨rfl, rfl⟩
              cases f6 with
              | false =>
                go_wp2_with fail
                go_ret
                exact ⟨ret_bool (by rw [HE.out]; rfl), HBP.out⟩
              | true =>
                go_wp2_with fail
                refine (HF7.out _).mono ?_
                rintro e w2 ⟨rfl, rfl⟩
                cases f7 with
                | false =>
                  go_wp2_with fail
                  go_ret
                  exact ⟨ret_bool (by rw [HE.out]; rfl), HBP.out⟩
                | true =>
                  go_wp2_with fail
                  refine (HF8.out _).mono ?_
                  rintro e w2 ⟨rfl, rfl⟩
                  cases f8 with
                  | false =>
                    go_wp2_with fail
                    go_ret
                    exact ⟨ret_bool (by rw [HE.out]; rfl), HBP.out⟩
                  | true =>
                    go_wp2_with fail
                    refine (HF9.out _).mono ?_
                    rintro e w2 ⟨rfl, rfl⟩
                    cases f9 with
                    | false =>
                      go_wp2_with fail
                      go_ret
                      exact ⟨ret_bool (by rw [HE.out]; rfl), HBP.out⟩
                    | true =>
                      go_wp2_with fail
                      refine (HF10.out _).mono ?_
                      rintro e w2 ⟨rfl, rfl⟩
                      cases f10 with
                      | false =>
                        go_wp2_with fail
                        go_ret
                        exact ⟨ret_bool (by rw [HE.out]; rfl), HBP.out⟩
                      | true =>
                        go_wp2_with fail
                        refine (HCK.out _ HBP.out).mono ?_
                        rintro e w3 ⟨rfl, hb3⟩
                        have HB3 := Lib.hid (HBP.out.trans (hb3.mono HBP.out.size))
                        clear hb3
                        go_wp2_with fail
                        go_ret
                        exact ⟨ret_bool (by rw [HE.out]; cases ck <;> simp <;> omega), HB3.out⟩
end Go.Proofs.YtmbonngjkgcijaaGreatDoor
