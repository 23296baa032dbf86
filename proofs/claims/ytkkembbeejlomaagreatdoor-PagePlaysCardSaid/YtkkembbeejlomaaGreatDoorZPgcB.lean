/- Bytes. -/
import Derived.Test.YtkkembbeejlomaaGreatDoorZOcwA
import Derived.Test.YtkkembbeejlomaaGreatDoorZPagX
import Derived.Test.YtkkembbeejlomaaGreatDoorZTak
set_option linter.unusedSimpArgs false
set_option linter.unusedVariables false
set_option linter.unnecessarySimpa false
namespace Go.Proofs.YtkkembbeejlomaaGreatDoor
open Go.RowKit Go.Shelf Go.Sort Go.Lib

def RowOk (r : Row) : Prop := r.k.length ≤ 16 ∧ -9223372036854775808 ≤ r.n ∧ r.n ≤ 9223372036854775807
def rowB (r : Row) : List UInt8 := strB ⟨r.k.toArray⟩ ++ natB (numN r.n)
def pageB (p : List Row) : List UInt8 := natB p.length ++ p.flatMap rowB
def bytesP (P : List (List Row)) : List UInt8 := natB P.length ++ P.flatMap pageB
theorem oper_app_run {P : Program} {w w' : World} {o : Oper} {a : Act} {K : Act → World → Prop} {Q : Exit → Act → World → Prop} (s x : Operand) (T tx : TypeId) (ho : o.op = .call { callee := .builtin .append, args := #[s, x], argTypes := #[T, tx] }) {u v v' : Value} (hs : a.eval s = u) (hx : a.eval x = v) (hrun : (Builtin.append_ #[T, tx] o.type #[u, v]).run P w = .ok v' w') (hK : K (a.put o.dst v') w') {c : Bool} (hc : c = true) {E : Prop} : if c = true then Oper.wp P o a w K Q else E := by
  rw [if_pos hc]
  unfold Oper.wp execOp
  simp only [ho, resolve, invoke, builtin, Sem.run_bind, Sem.run_pure, Result.andThen_ok, List.map_toArray, List.map_cons, List.map_nil, hs, hx, hrun]
  exact hK
theorem natB_ne (n : Nat) : natB n ≠ [] := by unfold natB; simp
theorem natB_le {n : Nat} (hn : n ≤ 18446744073709551615) : (natB n).length ≤ 9 := by
  rw [natB_len]
  have := sizeB_le n hn
  omega
theorem numN_le {m : Int} (h0 : -9223372036854775808 ≤ m) (h1 : m ≤ 9223372036854775807) : numN m ≤ 18446744073709551615 := by
  unfold numN
  split <;> omega
theorem rowB_le {r : Row} (h : RowOk r) : (rowB r).length ≤ 40 := by
  obtain ⟨h1, h2, h3⟩ := h
  unfold rowB strB
  have e : (⟨r.k.toArray⟩ : ByteArray).size = r.k.length := by simp [ByteArray.size]
  have a := natB_le (n := r.k.length) (by omega)
  have b := natB_le (numN_le h2 h3)
  rw [List.length_append, List.length_append, e]
  simp
  omega
theorem flat_snoc {α : Type} {f : Row → List α} {p : List Row} {j : Nat} {r : Row} (h : p[j]? = some r) : (p.take (j + 1)).flatMap f = (p.take j).flatMap f ++ f r := by
  rw [List.take_add_one, h]
  simp
theorem flat_snocP {α : Type} {f : List Row → List α} {p : List (List Row)} {j : Nat} {r : List Row} (h : p[j]? = some r) : (p.take (j + 1)).flatMap f = (p.take j).flatMap f ++ f r := by
  rw [List.take_add_one, h]
  simp
set_option maxRecDepth 100000 in
set_option maxHeartbeats 4000000 in
theorem Bytes_any {w : World} {s most : Nat} {v : Value} {L : List Pl} {P : List (List Row)} (h : St w s most v L P) (hF : Fine most P) (hR : ∀ p ∈ P, ∀ r ∈ p, RowOk r) :
    Calls Tryz.prog 25 #[.pointer (some ⟨s, 0, none⟩)] w fun e w' => ∃ v', e = .returned v' ∧ OwnBy w' w.heap.size v' (bytesP P) ∧ Below w.heap.size w w' := by
  obtain ⟨A, c, hv, hc1, hc2, _⟩ := h.row.form
  have ks : w.cell? ⟨s, 1, none⟩ = some v := cell_of h.head 1
  rw [hv] at ks
  unfold maxLen at hc2
  have HM : Hid (∀ W, Below w.heap.size w W → W.cell? ⟨s, 1, none⟩ = some (.slice A P.length c)) := Lib.hid (fun W hW => (hW.cell (p := ⟨s, 1, none⟩) (World.block_lt_of_cell? _ _ ks)).trans ks)
  have hlP := hF.len
  have hlI : (P.length : Int) ≤ 256 := by omega
  have HN := Lib.hid (onat_any P.length (by omega) w)
  go_enter Tryz.func25, Tryz.ntmps25
  go_wp2_with fail
  refine (HN.out).mono ?_
  rintro e w1 ⟨v1, rfl, ho1, hb1⟩
  have ks1 := HM.out _ hb1
  have HO1 := Lib.hid ho1
  have HB1 := Lib.hid hb1
  have H := Lib.hid h
  have HV := Lib.hid hv
  have HF := Lib.hid hF
  have HR := Lib.hid hR
  have hn9 := natB_le (n := P.length) (by omega)
  have HN9 := Lib.hid hn9
  clear ho1 hb1 h hv hF hR HN ks hn9
  go_wp2_with fail
  clear ks1
  go_loopw [3, 22] (fun bv iv wr => ∃ (i : Nat) (l : List UInt8), i ≤ P.length ∧ iv = .int .i64 i ∧ l = natB P.length ++ (P.take i).flatMap pageB ∧ l.length ≤ 9 + i * 3000 ∧ OwnBy wr w.heap.size bv l ∧ Below w.heap.size w wr) (fun _ iv _ => P.length - (RowKit.intOf iv).toNat)
  case atStart => exact ⟨0, _, Nat.zero_le _, rfl, by simp, by simpa using HN9.out, HO1.out, HB1.out⟩
  case round =>
    obtain ⟨i, l, hi, rfl, hl, hll, ho, hbw⟩ := hrel
    by_cases hlt : i < P.length
    · obtain ⟨p, hp⟩ : ∃ p, P[i]? = some p := ⟨_, List.getElem?_eq_getElem hlt⟩
      obtain ⟨a, g, c', ha, hv2, _, _, kc, hA, hac⟩ := row_page (H.out.below hbw) hp
      have hv3 := HV.out.symm.trans hv2
      injection hv3 with e1 _ e3
      subst e1 e3
      have hpl := (HF.out.page hp).2.2
      have hpI : (p.length : Int) ≤ 64 := by omega
      have hac' := hA.max
      unfold maxLen at hac'
      have hrp : ∀ r ∈ p, RowOk r := HR.out p (List.mem_of_getElem? hp)
      have HRP := Lib.hid hrp
      have hiI : (i : Int) < (P.length : Int) := by omega
      have HLT := Lib.hid hlt
      have HP := Lib.hid hp
      have HL := Lib.hid (And.intro hl hll)
      have HO := Lib.hid ho
      have HB := Lib.hid hbw
      have HA := Lib.hid (H.out.each i a p ha hp).1
      have HNP := Lib.hid (onat_any p.length (by omega) wr)
      obtain ⟨Ab, cb, rfl⟩ := ho.len
      clear hp ha hv2 hA hl hll ho hbw hlt hrp
      go_wp2_with fail
      refine (HNP.out).mono ?_
      rintro e w2 ⟨v2, rfl, ho2, hb2⟩
      have HOL := Lib.hid (HO.out.below hb2)
      have HSRC := Lib.hid (src_any ho2)
      have HB2 := Lib.hid (HB.out.trans (hb2.mono HB.out.size))
      have HLEN : Hid (l.length + (natB p.length).length ≤ 1073741824) := Lib.hid (by
        have := natB_le (n := p.length) (by omega)
        have := HL.out.2
        have := HLT.out
        omega)
      obtain ⟨A2, c2, rfl⟩ := ho2.len
      clear ho2 hb2 HNP
      go_wp2_with (at_builtin; refine wpList_append_by _ rfl _ _ 39 rfl w.heap.size l (natB p.length) _ _ rfl rfl HOL.out HSRC.out HLEN.out HB2.out.size ?_)
      intro v4 w4 ho4 hg4
      have hb4 := HB2.out.grown hg4 HB2.out.size HOL.out.rows
      have HO4 := Lib.hid ho4
      have HB4 := Lib.hid hb4
      clear ho4 hg4 hb4
      go_wp2_with fail
      go_loopw [3, 34] (fun bv jv wx => ∃ (j : Nat) (l2 : List UInt8), j ≤ p.length ∧ jv = .int .i64 j ∧ l2 = l ++ natB p.length ++ (p.take j).flatMap rowB ∧ l2.length ≤ 9 + i * 3000 + 9 + j * 40 ∧ OwnBy wx w.heap.size bv l2 ∧ Below w.heap.size w wx) (fun _ jv _ => p.length - (RowKit.intOf jv).toNat)
      case atStart => exact ⟨0, _, Nat.zero_le _, rfl, by simp, by
        have := natB_le (n := p.length) (by omega)
        have := HL.out.2
        rw [List.length_append]
        omega, HO4.out, HB4.out⟩
      case round =>
        obtain ⟨j, l2, hj, rfl, hl2, hll2, ho5, hbx⟩ := hrel
        by_cases hjt : j < p.length
        · obtain ⟨r, hr⟩ : ∃ r, p[j]? = some r := ⟨_, List.getElem?_eq_getElem hjt⟩
          obtain ⟨q1, q2⟩ := pgC_at hr
          have hA5 := HA.out.below hbx
          have k1 := hA5.holds _ _ q1
          have k2 := hA5.holds _ _ q2
          rw [← Nat.add_assoc] at k2
          unfold strV at k1
          obtain ⟨o1, o2, o3⟩ := HRP.out r (List.mem_of_getElem? hr)
          have hrb := rowB_le (r := r) ⟨o1, o2, o3⟩
          have hjI : (j : Int) < (p.length : Int) := by omega
          have hW1 := below_new (w := wr) (.cells #[.string ⟨r.k.toArray⟩, .int .i64 r.n] 42)
          have hat := alloc_at wr (.cells #[.string ⟨r.k.toArray⟩, .int .i64 r.n] 42)
          obtain ⟨W1, hW1e⟩ : ∃ W1, W1 = wr.alloc (.cells #[.string ⟨r.k.toArray⟩, .int .i64 r.n] 42) := ⟨_, rfl⟩
          rw [← hW1e] at hW1 hat
          have HSW : Hid (∀ W, Below W1.heap.size W1 W → W.cell? ⟨wr.heap.size, 0, none⟩ = some (.string ⟨r.k.toArray⟩) ∧ W.cell? ⟨wr.heap.size, 1, none⟩ = some (.int .i64 r.n)) := Lib.hid (fun W hW => ⟨(hW.cell (p := ⟨wr.heap.size, 0, none⟩) (heap_lt hat)).trans (cell_of hat 0), (hW.cell (p := ⟨wr.heap.size, 1, none⟩) (heap_lt hat)).trans (cell_of hat 1)⟩)
          have HB1 := Lib.hid (hbx.trans (hW1.mono hbx.size))
          have HO5 := Lib.hid (ho5.below hW1)
          have HST := Lib.hid (ostr_any ⟨r.k.toArray⟩ (by simp only [ByteArray.size, List.size_toArray]; omega) W1.drew)
          have HNU := Lib.hid (fun W => onum_any r.n o2 o3 W)
          have HW1E := Lib.hid hW1e
          have HJT := Lib.hid hjt
          have HT : Hid (l ++ natB p.length ++ (p.take (j + 1)).flatMap rowB = l2 ++ rowB r ∧ (l2 ++ rowB r).length ≤ 9 + i * 3000 + 9 + (j + 1) * 40 ∧ l2.length + (rowB r).length ≤ 1073741824) := Lib.hid ⟨by rw [flat_snoc hr, hl2, List.append_assoc, List.append_assoc, List.append_assoc], by rw [List.length_append]; omega, by have := HLT.out; omega⟩
          have HQL : Hid ([strB ⟨r.k.toArray⟩, natB (numN r.n)].flatten.length ≤ 536870912 ∧ [strB ⟨r.k.toArray⟩, natB (numN r.n)].flatten = rowB r) := Lib.hid (by
            have e : [strB ⟨r.k.toArray⟩, natB (numN r.n)].flatten = rowB r := by simp [rowB]
            rw [e]
            exact ⟨by omega, rfl⟩)
          obtain ⟨A5, c5, rfl⟩ := ho5.len
          have HNE : Hid (∀ g, (Value.slice A5 l2.length c5).ownBlock = some g → g ≠ wr.heap.size) := Lib.hid (fun g e => by
            rcases ho5 with ⟨e1, _⟩ | ⟨g', cap, e1, h⟩
            · rw [e1] at e; cases e
            · rw [e1] at e
              have e : g' = g := Option.some.inj e
              have := h.lt
              omega)
          clear hA5 hl2 hll2 ho5 hbx hr q1 q2 hW1 hat hrb hjt
          go_wp2_with fail
          rw [← HW1E.out]
          clear hW1e k1 k2
          refine wp_only ?_
          refine wp_region_held_drew (S := fun W => W.cell? ⟨wr.heap.size, 0, none⟩ = some (.string ⟨r.k.toArray⟩) ∧ W.cell? ⟨wr.heap.size, 1, none⟩ = some (.int .i64 r.n)) (by kernel_rfl) (HSW.out _ (below_drew (Below.refl _ _))) (fun hHeld => ?_)
          refine wpAnyH_take (i := 0) (oi := { dst := some 38, op := Op.move (Operand.tmp 3), type := 39, pos := "bytes.go:18", after := #[], guard := none }) (v := ?vv1) rfl (by kernel_rfl) (by kernel_rfl) (by kernel_rfl) (fun _ _ _ h => h) ?hy1 (by assumption) ?rest1
          case hy1 => (refine Or.inl ⟨by rfl, ?_⟩; intro W hSw; (try dsimp only at hSw); go_simp; (try with_reducible rfl))
          try simp only [Act.put, List.setIfInBounds_toArray, List.set_cons_zero, List.set_cons_succ]
          refine wpAnyH_take (i := 1) (oi := { dst := some 39, op := Op.fieldAddr 42 (Operand.tmp 7) 0, type := 0, pos := "bytes.go:18", after := #[], guard := none }) (v := ?vv2) rfl (by kernel_rfl) (by kernel_rfl) (by kernel_rfl) (fun _ _ _ h => h) ?hy2 (by assumption) ?rest2
          case hy2 => (refine Or.inl ⟨by rfl, ?_⟩; intro W hSw; (try dsimp only at hSw); go_simp; (try with_reducible rfl))
          try simp only [Act.put, List.setIfInBounds_toArray, List.set_cons_zero, List.set_cons_succ]
          refine wpAnyH_take (i := 2) (oi := { dst := some 40, op := Op.load 9 (Operand.tmp 39), type := 9, pos := "bytes.go:18", after := #[{ on := 1, ground := Ground.data }], guard := none }) (v := ?vv3) rfl (by kernel_rfl) (by kernel_rfl) (by kernel_rfl) (fun _ _ _ h => h) ?hy3 (by assumption) ?rest3
          case hy3 => (refine Or.inl ⟨by rfl, ?_⟩; intro W hSw; (try dsimp only at hSw); go_simp; (try with_reducible rfl))
          try simp only [Act.put, List.setIfInBounds_toArray, List.set_cons_zero, List.set_cons_succ]
          refine wpAnyH_take (i := 4) (oi := { dst := some 42, op := Op.fieldAddr 42 (Operand.tmp 7) 1, type := 0, pos := "bytes.go:18", after := #[], guard := none }) (v := ?vv4) rfl (by kernel_rfl) (by kernel_rfl) (by kernel_rfl) (fun _ _ _ h => h) ?hy4 (by assumption) ?rest4
          case hy4 => (refine Or.inl ⟨by rfl, ?_⟩; intro W hSw; (try dsimp only at hSw); go_simp; (try with_reducible rfl))
          try simp only [Act.put, List.setIfInBounds_toArray, List.set_cons_zero, List.set_cons_succ]
          refine wpAnyH_take (i := 5) (oi := { dst := some 43, op := Op.load 2 (Operand.tmp 42), type := 2, pos := "bytes.go:18", after := #[{ on := 4, ground := Ground.data }], guard := none }) (v := ?vv5) rfl (by kernel_rfl) (by kernel_rfl) (by kernel_rfl) (fun _ _ _ h => h) ?hy5 (by assumption) ?rest5
          case hy5 => (refine Or.inl ⟨by rfl, ?_⟩; intro W hSw; (try dsimp only at hSw); go_simp; (try with_reducible rfl))
          try simp only [Act.put, List.setIfInBounds_toArray, List.set_cons_zero, List.set_cons_succ]
          refine wpAnyH_ready (rs := [3]) (by kernel_rfl) (by simp) ?_
          refine AllReadyH.cons (o := { dst := some 41, op := Op.call { callee := Callee.value (Operand.func 51), args := #[Operand.tmp 40], argTypes := #[9] }, type := 39, pos := "bytes.go:18", after := #[{ on := 2, ground := Ground.data }], guard := none }) rfl (fun K hK => ?step6) ?more6
          case more6 => exact AllReadyH.nil
          ((go_simp; go_at_call 51; refine (HST.out).mono ?_; rintro e w6 ⟨v6, rfl, ho6, hb6⟩; have HO6 := Lib.hid ho6; have HB6 := Lib.hid (below_of_drew hb6); obtain ⟨A6, c6, rfl⟩ := ho6.len; clear ho6 hb6; go_wp2_with fail))
          refine hK.out _ _ ?hS6 (fun hHeld => ?rr6)
          case hS6 => (exact HSW.out _ HB6.out)
          clear hK K
          try simp only [Act.put, List.setIfInBounds_toArray, List.set_cons_zero, List.set_cons_succ]
          refine wpAnyH_ready (rs := [6]) (by kernel_rfl) (by simp) ?_
          refine AllReadyH.cons (o := { dst := some 44, op := Op.call { callee := Callee.value (Operand.func 52), args := #[Operand.tmp 43], argTypes := #[2] }, type := 39, pos := "bytes.go:18", after := #[{ on := 5, ground := Ground.data }, { on := 3, ground := Ground.chain }], guard := none }) rfl (fun K hK => ?step7) ?more7
          case more7 => exact AllReadyH.nil
          ((go_simp; go_at_call 52; refine (HNU.out _).mono ?_; rintro e w7 ⟨v7, rfl, ho7, hb7⟩; have HO7 := Lib.hid ho7; have HB7 := Lib.hid (HB6.out.trans (hb7.mono HB6.out.size)); have HO67 := Lib.hid (HO6.out.below hb7); obtain ⟨A7, c7, rfl⟩ := ho7.len; clear ho7 hb7; go_wp2_with fail))
          refine hK.out _ _ ?hS7 (fun hHeld => ?rr7)
          case hS7 => (exact HSW.out _ HB7.out)
          clear hK K
          try simp only [Act.put, List.setIfInBounds_toArray, List.set_cons_zero, List.set_cons_succ]
          have hbn := below_new (w := w7) (.cells #[.slice A6 (strB ⟨r.k.toArray⟩).length c6, .slice A7 (natB (numN r.n)).length c7] 39)
          have hat8 := alloc_at w7 (.cells #[.slice A6 (strB ⟨r.k.toArray⟩).length c6, .slice A7 (natB (numN r.n)).length c7] 39)
          have HSQ := Lib.hid (oseq_any (v := .slice (some ⟨w7.heap.size, 0, none⟩) 2 2) (ls := [strB ⟨r.k.toArray⟩, natB (numN r.n)]) (.inr ⟨w7.heap.size, 2, rfl, heap_lt hat8, by simp, fun x y hxy => by
            match x, hxy with
            | 0, hxy =>
              obtain rfl := Option.some.inj hxy
              exact ⟨by unfold strB; simp [natB], _, cell_of hat8 0, (HO67.out.below hbn).mono (Nat.zero_le _)⟩
            | 1, hxy =>
              obtain rfl := Option.some.inj hxy
              exact ⟨natB_ne _, _, cell_of hat8 1, (HO7.out.below hbn).mono (Nat.zero_le _)⟩⟩) HQL.out.1)
          have HB8 := Lib.hid (HB7.out.trans (hbn.mono HB7.out.size))
          clear hbn hat8
          refine wpAnyH_ready (rs := [7]) (by kernel_rfl) (by simp) ?_
          refine AllReadyH.cons (o := { dst := some 45, op := Op.buildSlice 44 2 #[(0, Operand.tmp 41), (1, Operand.tmp 44)], type := 44, pos := "bytes.go:18", after := #[{ on := 3, ground := Ground.data }, { on := 6, ground := Ground.data }], guard := none }) rfl (fun K hK => ?step8) ?more8
          case more8 => exact AllReadyH.nil
          ((go_simp))
          refine hK.out _ _ ?hS8 (fun hHeld => ?rr8)
          case hS8 => (exact HSW.out _ HB8.out)
          clear hK K
          try simp only [Act.put, List.setIfInBounds_toArray, List.set_cons_zero, List.set_cons_succ]
          refine wpAnyH_ready (rs := [8]) (by kernel_rfl) (by simp) ?_
          refine AllReadyH.cons (o := { dst := some 46, op := Op.call { callee := Callee.value (Operand.func 50), args := #[Operand.tmp 45], argTypes := #[44] }, type := 39, pos := "bytes.go:18", after := #[{ on := 7, ground := Ground.data }, { on := 6, ground := Ground.chain }], guard := none }) rfl (fun K hK => ?step9) ?more9
          case more9 => exact AllReadyH.nil
          ((go_simp; go_at_call 50; refine (HSQ.out).mono ?_; rintro e w9 ⟨v9, rfl, ho9, hb9⟩; rw [HQL.out.2] at ho9; have HO9 := Lib.hid ho9; have HB9 := Lib.hid (HB8.out.trans (hb9.mono HB8.out.size)); obtain ⟨A9, c9, rfl⟩ := ho9.len; clear ho9 hb9; go_wp2_with fail))
          refine hK.out _ _ ?hS9 (fun hHeld => ?rr9)
          case hS9 => (exact HSW.out _ HB9.out)
          clear hK K
          try simp only [Act.put, List.setIfInBounds_toArray, List.set_cons_zero, List.set_cons_succ]
          obtain ⟨va, wa, hra, hoa, hga⟩ := run_append_by w9 w.heap.size 39 39 _ l2 (rowB r) _ (HO5.out.below HB9.out) (src_any HO9.out) HT.out.2.2 (Nat.le_trans HB1.out.size HB9.out.size)
          have HRA := Lib.hid hra
          have HBA := Lib.hid ((HB1.out.trans (HB9.out.mono HB1.out.size)).grown hga (Nat.le_trans HB1.out.size HB9.out.size) HO5.out.rows)
          have HSA : Hid (wa.cell? ⟨wr.heap.size, 0, none⟩ = some (.string ⟨r.k.toArray⟩) ∧ wa.cell? ⟨wr.heap.size, 1, none⟩ = some (.int .i64 r.n)) := Lib.hid (by
            have hs := HSW.out _ HB9.out
            have hk := hga.block wr.heap.size (World.block_lt_of_cell? _ _ hs.1) (fun e => HNE.out _ e.symm rfl)
            exact ⟨(World.cell?_of_block (a := ⟨wr.heap.size, 0, none⟩) hk).trans hs.1, (World.cell?_of_block (a := ⟨wr.heap.size, 1, none⟩) hk).trans hs.2⟩)
          have HOA := Lib.hid hoa
          clear hra hga
          refine wpAnyH_ready (rs := [9]) (by kernel_rfl) (by simp) ?_
          refine AllReadyH.cons (o := { dst := some 47, op := Op.call { callee := Callee.builtin Builtin.append, args := #[Operand.tmp 38, Operand.tmp 46], argTypes := #[39, 39] }, type := 39, pos := "bytes.go:18", after := #[{ on := 0, ground := Ground.data }, { on := 8, ground := Ground.data }, { on := 8, ground := Ground.chain }], guard := none }) rfl (fun K hK => ?step10) ?more10
          case more10 => exact AllReadyH.nil
          ((refine oper_app_run _ _ _ _ rfl rfl rfl HRA.out ?_ (by kernel_rfl)))
          refine hK.out _ _ ?hS10 (fun hHeld => ?rr10)
          case hS10 => (exact HSA.out)
          clear hK K
          try simp only [Act.put, List.setIfInBounds_toArray, List.set_cons_zero, List.set_cons_succ]
          refine wpAnyH_take (i := 10) (oi := { dst := some 3, op := Op.assign (Operand.tmp 47), type := 39, pos := "bytes.go:18", after := #[{ on := 9, ground := Ground.data }, { on := 9, ground := Ground.chain }, { on := 0, ground := Ground.phase }, { on := 1, ground := Ground.phase }, { on := 2, ground := Ground.phase }, { on := 3, ground := Ground.phase }, { on := 4, ground := Ground.phase }, { on := 5, ground := Ground.phase }, { on := 6, ground := Ground.phase }, { on := 7, ground := Ground.phase }, { on := 8, ground := Ground.phase }, { on := 9, ground := Ground.phase }], guard := none }) (v := ?vv11) rfl (by kernel_rfl) (by kernel_rfl) (by kernel_rfl) (fun _ _ _ h => h) ?hy11 (by assumption) ?rest11
          case hy11 => (refine Or.inl ⟨by rfl, ?_⟩; intro W hSw; (try dsimp only at hSw); go_simp; (try with_reducible rfl))
          try simp only [Act.put, List.setIfInBounds_toArray, List.set_cons_zero, List.set_cons_succ]
          refine wpAnyH_done (by kernel_rfl) ?_ _
          clear hHeld hoa
          dsimp only [onlyN]
          go_wp2_with fail
          go_roundw
          case rel => exact ⟨j + 1, _, HJT.out, by go_num, HT.out.1.symm, HT.out.2.1, HOA.out, HBA.out⟩
          case measure => have := HJT.out; simp [RowKit.intOf]; omega
        · obtain rfl : j = p.length := by omega
          rw [List.take_length] at hl2
          have HFIN : Hid (∃ l', l' = natB P.length ++ (P.take (i + 1)).flatMap pageB ∧ l'.length ≤ 9 + (i + 1) * 3000 ∧ l' = l2) := Lib.hid ⟨l2, by rw [hl2, flat_snocP HP.out, HL.out.1]; simp [pageB], by omega, rfl⟩
          have HO5 := Lib.hid ho5
          have HB5 := Lib.hid hbx
          obtain ⟨A5, c5, rfl⟩ := ho5.len
          clear hl2 hll2 ho5 hbx
          go_wp2_with fail
          go_roundw
          case rel =>
            obtain ⟨l', e1, e2, e3⟩ := HFIN.out
            subst e3
            exact ⟨i + 1, _, HLT.out, by go_num, e1, e2, HO5.out, HB5.out⟩
          case measure => have := HLT.out; simp [RowKit.intOf]; omega
    · obtain rfl : i = P.length := by omega
      rw [List.take_length] at hl
      have HF2 := Lib.hid (show OwnBy wr w.heap.size _ (bytesP P) by unfold bytesP; rw [← hl]; exact ho)
      have HB := Lib.hid hbw
      obtain ⟨A5, c5, rfl⟩ := ho.len
      clear hl hll ho hbw
      go_wp2_with fail
      go_ret
      exact ⟨_, rfl, HF2.out, HB.out⟩
end Go.Proofs.YtkkembbeejlomaaGreatDoor
