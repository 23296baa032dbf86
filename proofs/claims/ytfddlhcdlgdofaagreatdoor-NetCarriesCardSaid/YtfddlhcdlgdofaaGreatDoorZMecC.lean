/- mess.nats, nums; what operations' bytes are made of. -/
import Derived.Test.YtfddlhcdlgdofaaGreatDoorZMecA
import Derived.Test.YtfddlhcdlgdofaaGreatDoorZOmwB
set_option linter.unusedSimpArgs false
set_option linter.unusedVariables false
set_option linter.unnecessarySimpa false
namespace Go.Proofs.YtfddlhcdlgdofaaGreatDoor
open Go.RowKit Go.Shelf

/-- A slice that reads as numbers, wherever it lies. -/
def NumsAt (w : World) (v : Value) (l : List Int) : Prop := ∃ A cap, v = .slice A l.length cap ∧ l.length ≤ cap ∧ cap ≤ maxLen ∧ ∀ (i : Nat) (x : Int), l[i]? = some x → ∃ a : Addr, A = some a ∧ a.block < w.heap.size ∧ w.cell? (a.add i) = some (.int .i64 x)
theorem NumsAt.below {w w' : World} {v : Value} {l : List Int} (h : NumsAt w v l) (hb : Below w.heap.size w w') : NumsAt w' v l := by
  obtain ⟨A, cap, e, h1, h2, h3⟩ := h
  refine ⟨A, cap, e, h1, h2, fun i x hi => ?_⟩
  obtain ⟨a, q0, q1, k0⟩ := h3 i x hi
  exact ⟨a, q0, Nat.lt_of_lt_of_le q1 hb.size, (hb.cell (by rw [add_block]; exact q1)).trans k0⟩
/-- Numbers in a block of their own. -/
theorem nums_new (w : World) (l : List Int) (n : Nat) (hn : l.length = n) (hl : n ≤ 1000) (cs : Array Value) (hcs : cs = (l.map fun x => Value.int .i64 x).toArray) (t : TypeId) : NumsAt (w.alloc (.cells cs t)) (.slice (some ⟨w.heap.size, 0, none⟩) n n) l := by
  subst hn hcs
  refine ⟨some ⟨w.heap.size, 0, none⟩, l.length, rfl, Nat.le_refl _, by unfold maxLen; omega, fun i x hi => ⟨_, rfl, by rw [asz]; exact Nat.lt_succ_self _, ?_⟩⟩
  rw [add0, cell_of (alloc_at w _)]
  simp [hi]
theorem natB_ne (n : Nat) : natB n ≠ [] := by unfold natB; simp
theorem natsB_le (l : List Int) (h : ∀ x ∈ l, 0 ≤ x ∧ x ≤ 9223372036854775807) : (natsB l).length ≤ l.length * 9 := flatM_le _ 9 l (fun x hx => natB_le _ (by have := h x hx; omega))
theorem flat_snocM {α : Type} {f : α → List UInt8} {p : List α} {j : Nat} {r : α} (h : p[j]? = some r) : (p.take (j + 1)).flatMap f = (p.take j).flatMap f ++ f r := by
  rw [List.take_add_one, h]
  simp
set_option maxRecDepth 100000 in
set_option maxHeartbeats 2000000 in
theorem nats_any {w : World} {v : Value} {l : List Int} (h : NumsAt w v l) (hx : ∀ x ∈ l, 0 ≤ x ∧ x ≤ 9223372036854775807) (hl : l.length ≤ 1000) :
    Calls Tryz.prog 143 #[v] w fun e w' => ∃ v', e = .returned v' ∧ OwnBy w' w.heap.size v' (natsB l) ∧ Below w.heap.size w w' := by
  obtain ⟨A, cap, rfl, hc1, hc2, hcell⟩ := h
  unfold maxLen at hc2
  have HC := Lib.hid hcell
  have HX := Lib.hid hx
  obtain ⟨m, hm⟩ : ∃ m, l.length = m := ⟨_, rfl⟩
  have HM := Lib.hid hm
  rw [hm] at hc1 hl ⊢
  have hmI : (m : Int) ≤ 1000 := by omega
  clear hcell hx hm
  go_enter Tryz.func143, Tryz.ntmps143
  go_wp2_with fail
  go_loopw [3, 8] (fun bv iv wr => ∃ i : Nat, i ≤ m ∧ iv = .int .i64 i ∧ OwnBy wr w.heap.size bv (natsB (l.take i)) ∧ Below w.heap.size w wr) (fun _ iv _ => m - (intOf iv).toNat)
  case atStart => exact ⟨0, Nat.zero_le _, rfl, .inl ⟨rfl, rfl⟩, Below.refl _ _⟩
  case round =>
    obtain ⟨i, hi, rfl, ho, hbw⟩ := hrel
    by_cases hlt : i < m
    · obtain ⟨x, hxi⟩ : ∃ x, l[i]? = some x := ⟨_, List.getElem?_eq_getElem (by rw [HM.out]; exact hlt)⟩
      obtain ⟨a, rfl, q1, k0⟩ := HC.out i x hxi
      replace k0 := (hbw.cell (by rw [add_block]; exact q1)).trans k0
      obtain ⟨hx0, hx1⟩ := HX.out x (List.mem_of_getElem? hxi)
      obtain ⟨n, rfl⟩ : ∃ n : Nat, x = n := ⟨x.toNat, by omega⟩
      have HNT := Lib.hid (onat_any n (by omega) wr)
      have hw : IntKind.u64.wrap (n : Int) = (n : Int) := by rw [IntKind.wrap_u64]; omega
      have HSN : Hid (natsB (l.take (i + 1)) = natsB (l.take i) ++ natB n) := Lib.hid (by unfold natsB; rw [flat_snocM hxi]; simp)
      have HLN : Hid ((natsB (l.take i)).length + (natB n).length ≤ 1073741824) := Lib.hid (by
        have h1 := natsB_le (l.take i) (fun y hy => HX.out y (List.mem_of_mem_take hy))
        have h2 := natB_le n (by omega)
        rw [List.length_take] at h1
        omega)
      have hiI : (i : Int) < (m : Int) := by omega
      have HLT := Lib.hid hlt
      have HO := Lib.hid ho
      have HB := Lib.hid hbw
      obtain ⟨Ab, cb, rfl⟩ := ho.len
      clear hxi q1 hx0 hx1 ho hbw hlt hi
      go_wp2_with fail
      refine (HNT.out).mono ?_
      rintro e w2 ⟨v2, rfl, ho2, hb2⟩
      have HOL := Lib.hid (HO.out.below hb2)
      have HSRC := Lib.hid (src_any ho2)
      have HB2 := Lib.hid (HB.out.trans (hb2.mono HB.out.size))
      obtain ⟨A2, c2, rfl⟩ := ho2.len
      clear ho2 hb2 HNT k0
      go_wp2_with (at_builtin; refine wpList_append_by _ rfl _ _ 54 rfl w.heap.size (natsB (l.take i)) (natB n) _ _ rfl rfl HOL.out HSRC.out HLN.out HB2.out.size ?_)
      intro v4 w4 ho4 hg4
      have HB4 := Lib.hid (HB2.out.grown hg4 HB2.out.size HOL.out.rows)
      have HO4 := Lib.hid ho4
      clear ho4 hg4
      go_wp2_with fail
      go_roundw
      case rel => exact ⟨i + 1, HLT.out, by go_num, by rw [HSN.out]; exact HO4.out, HB4.out⟩
      case measure => have := HLT.out; simp [intOf]; omega
    · obtain rfl : i = m := by omega
      rw [List.take_of_length_le (by rw [HM.out]; omega)] at ho
      have HO := Lib.hid ho
      have HB := Lib.hid hbw
      obtain ⟨Ab, cb, rfl⟩ := ho.len
      clear ho hbw
      go_wp2_with fail
      go_ret
      exact ⟨_, rfl, HO.out, HB.out⟩
theorem numsB_le (l : List Int) (hl : l.length ≤ 1000) (h : ∀ x ∈ l, -9223372036854775808 ≤ x ∧ x ≤ 9223372036854775807) : (l.flatMap fun x => natB (numN x)).length ≤ l.length * 9 := flatM_le _ 9 l (fun x hx => natB_le _ (numN_le' (h x hx).1 (h x hx).2))
set_option maxRecDepth 100000 in
set_option maxHeartbeats 2000000 in
theorem nums_any {w : World} {v : Value} {l : List Int} (h : NumsAt w v l) (hx : ∀ x ∈ l, -9223372036854775808 ≤ x ∧ x ≤ 9223372036854775807) (hl : l.length ≤ 1000) :
    Calls Tryz.prog 145 #[v] w fun e w' => ∃ v', e = .returned v' ∧ OwnBy w' w.heap.size v' (numsB l) ∧ Below w.heap.size w w' := by
  have hNA := h
  obtain ⟨A, cap, rfl, hc1, hc2, hcell⟩ := h
  unfold maxLen at hc2
  have HC := Lib.hid hcell
  have HX := Lib.hid hx
  obtain ⟨m, hm⟩ : ∃ m, l.length = m := ⟨_, rfl⟩
  have HM := Lib.hid hm
  rw [hm] at hc1 hl ⊢
  have hmI : (m : Int) ≤ 1000 := by omega
  have hn1 := nums_new w [(m : Int)] 1 rfl (by omega) #[.int .i64 m] (by simp) 3
  have HNT := Lib.hid (nats_any hn1 (fun x hx => by obtain rfl := List.mem_singleton.1 hx; omega) (by simp))
  have HBN := Lib.hid (below_new (w := w) (.cells #[.int .i64 m] 3))
  have HN1 : Hid (natsB [(m : Int)] = natB m) := Lib.hid (by simp [natsB])
  have HN9 := Lib.hid (natB_le m (by omega))
  clear hcell hx hm hNA hn1
  go_enter Tryz.func145, Tryz.ntmps145
  go_wp2_with fail
  refine (HNT.out).mono ?_
  rintro e w1 ⟨v1, rfl, ho1, hb1⟩
  rw [HN1.out] at ho1
  have HO1 := Lib.hid (ho1.lower HBN.out.size)
  have HB1 := Lib.hid (HBN.out.trans (hb1.mono HBN.out.size))
  obtain ⟨A1, c1, rfl⟩ := ho1.len
  clear ho1 hb1 HNT
  go_wp2_with fail
  go_loopw [3, 12] (fun bv iv wr => ∃ i : Nat, i ≤ m ∧ iv = .int .i64 i ∧ OwnBy wr w.heap.size bv (natB m ++ (l.take i).flatMap fun x => natB (numN x)) ∧ Below w.heap.size w wr) (fun _ iv _ => m - (intOf iv).toNat)
  case atStart => exact ⟨0, Nat.zero_le _, rfl, by simpa using HO1.out, HB1.out⟩
  case round =>
    obtain ⟨i, hi, rfl, ho, hbw⟩ := hrel
    by_cases hlt : i < m
    · obtain ⟨x, hxi⟩ : ∃ x, l[i]? = some x := ⟨_, List.getElem?_eq_getElem (by rw [HM.out]; exact hlt)⟩
      obtain ⟨a, rfl, q1, k0⟩ := HC.out i x hxi
      replace k0 := (hbw.cell (by rw [add_block]; exact q1)).trans k0
      obtain ⟨hx0, hx1⟩ := HX.out x (List.mem_of_getElem? hxi)
      have HNT := Lib.hid (onum_any x hx0 hx1 wr)
      obtain ⟨B, hB⟩ : ∃ B, B = natB m ++ (l.take i).flatMap fun x => natB (numN x) := ⟨_, rfl⟩
      rw [← hB] at ho
      have HSN : Hid (natB m ++ (l.take (i + 1)).flatMap (fun x => natB (numN x)) = B ++ natB (numN x)) := Lib.hid (by rw [flat_snocM hxi, hB, List.append_assoc])
      have HLN : Hid (B.length + (natB (numN x)).length ≤ 1073741824) := Lib.hid (by
        have h1 := numsB_le (l.take i) (by rw [List.length_take]; omega) (fun y hy => HX.out y (List.mem_of_mem_take hy))
        have h2 := natB_le _ (numN_le' hx0 hx1)
        have h3 := HN9.out
        rw [List.length_take] at h1
        rw [hB, List.length_append]
        omega)
      have hiI : (i : Int) < (m : Int) := by omega
      have HLT := Lib.hid hlt
      have HO := Lib.hid ho
      have HB := Lib.hid hbw
      obtain ⟨Ab, cb, rfl⟩ := ho.len
      clear hxi q1 hx0 hx1 ho hbw hlt hi hB
      go_wp2_with fail
      refine (HNT.out).mono ?_
      rintro e w2 ⟨v2, rfl, ho2, hb2⟩
      have HOL := Lib.hid (HO.out.below hb2)
      have HSRC := Lib.hid (src_any ho2)
      have HB2 := Lib.hid (HB.out.trans (hb2.mono HB.out.size))
      obtain ⟨A2, c2, rfl⟩ := ho2.len
      clear ho2 hb2 HNT k0
      go_wp2_with (at_builtin; refine wpList_append_by _ rfl _ _ 54 rfl w.heap.size B (natB (numN x)) _ _ rfl rfl HOL.out HSRC.out HLN.out HB2.out.size ?_)
      intro v4 w4 ho4 hg4
      have HB4 := Lib.hid (HB2.out.grown hg4 HB2.out.size HOL.out.rows)
      have HO4 := Lib.hid ho4
      clear ho4 hg4
      go_wp2_with fail
      go_roundw
      case rel => exact ⟨i + 1, HLT.out, by go_num, by rw [HSN.out]; exact HO4.out, HB4.out⟩
      case measure => have := HLT.out; simp [intOf]; omega
    · obtain rfl : i = m := by omega
      rw [List.take_of_length_le (by rw [HM.out]; omega)] at ho
      have en : natB i ++ l.flatMap (fun x => natB (numN x)) = numsB l := by unfold numsB; rw [HM.out]
      rw [en] at ho
      have HO := Lib.hid ho
      have HB := Lib.hid hbw
      obtain ⟨Ab, cb, rfl⟩ := ho.len
      clear ho en hbw
      go_wp2_with fail
      go_ret
      exact ⟨_, rfl, HO.out, HB.out⟩
end Go.Proofs.YtfddlhcdlgdofaaGreatDoor
