/- The law on what is read. (genmeie.py wrote it.) -/
import Derived.Test.YtfaaeacgmlklhaaGreatDoorZMeiC
import Derived.Test.YtfaaeacgmlklhaaGreatDoorZCrcI
set_option linter.unusedSimpArgs false
set_option linter.unusedVariables false
set_option linter.unnecessarySimpa false
namespace Go.Proofs.YtfaaeacgmlklhaaGreatDoor
open Go.RowKit Go.Shelf

theorem BIs.front {w : World} {a : Addr} {c n : Nat} {l : List UInt8} (h : BIs w (.slice (some a) l.length c) l) (hn : n ≤ l.length) : BIs w (.slice (some a) n c) (l.take n) := by
  obtain ⟨A, cap, e, h1, h2, h3⟩ := h
  injection e with e1 _ e3
  subst e1 e3
  have hl : (l.take n).length = n := by rw [List.length_take]; omega
  refine ⟨some a, c, by rw [hl], by rw [hl]; omega, h2, fun i b hi => ?_⟩
  rw [List.getElem?_take] at hi
  split at hi
  · exact h3 i b hi
  · cases hi
theorem OwnC.part {w : World} {base g c s n : Nat} {l : List UInt8} (h : OwnC w base g c l) (hn : s + n ≤ l.length) : BIs w (.slice (some ⟨g, s, none⟩) n (c - s)) ((l.drop s).take n) := by
  have hl : ((l.drop s).take n).length = n := by rw [List.length_take, List.length_drop]; omega
  have hle := h.le
  have hmx := h.max
  refine ⟨some ⟨g, s, none⟩, c - s, by rw [hl], by rw [hl]; omega, by omega, fun i b hi => ⟨_, rfl, h.lt, ?_⟩⟩
  rw [List.getElem?_take] at hi
  split at hi
  · rw [List.getElem?_drop] at hi
    have e : (⟨g, s, none⟩ : Addr).add i = ⟨g, s + i, none⟩ := by
      rw [← add0 g s, addr_add, add0]
    rw [e]
    exact h.holds (s + i) b hi
  · cases hi
theorem u8_xor (a b : UInt8) : bits .xor .u8 (a.toNat : Int) (b.toNat : Int) = ((a ^^^ b).toNat : Int) := by
  rw [u8_xor_nat _ _ (UInt8.toNat_lt a) (UInt8.toNat_lt b)]
  rfl
theorem ownb_empty (w : World) : OwnBy (w.alloc (.cells #[] 5)) w.heap.size (.slice (some ⟨w.heap.size, 0, none⟩) 0 0) [] :=
  .inr ⟨w.heap.size, 0, rfl, ⟨Nat.le_refl _, by rw [asz]; omega, Nat.le_refl _, by unfold maxLen; omega, fun j b h => by simp at h, fun j h => by omega⟩⟩
theorem RowC.new3 {W : World} {b : Nat} {x y z : Value} {T : TypeId} (h : W.heap[b]? = some (.cells #[x, y, z] T (0, 0))) : RowC W 1 b 3 [x, y, z] :=
  ⟨heap_lt h, by simp, by unfold maxLen; omega, fun j u hj => by rw [cell_of h]; simpa using hj, fun j hj => ⟨by
    rw [cell_of h]
    match j, hj with
    | 0, _ => rfl
    | 1, _ => rfl
    | 2, _ => rfl, free0 h j⟩⟩
theorem infoB : (Tryz.prog.info? 28).map (fun i => (i.zero, i.size, i.bytes)) = some (some (.slice none 0 0), 1, 24) := by kernel_rfl
theorem src_sl {w : World} {x : Value} {t : TypeId} {b : Nat} (h : w.heap[b]? = some (.cells #[x] t (0, 0))) (hx : x.oneCell' = true) : Src Tryz.prog 1 44 (.slice (some ⟨b, 0, none⟩) 1 1) 1 [x] w :=
  Src.ofSlice _ Tryz.underlying44 ⟨b, 0, none⟩ 1 1 [x] rfl (fun j u hu => by
    rw [add0, cell_of h]
    simpa using hu) (by simpa using hx)
theorem OwnBy.touch {S : Nat → Prop} {w w' : World} {base : Nat} {v : Value} {l : List UInt8} (h : OwnBy w base v l) (ht : Touch S w w') (hS : ∀ k, base ≤ k → ¬ S k) : OwnBy w' base v l := by
  rcases h with h | ⟨g, cap, rfl, h⟩
  · exact .inl h
  · exact .inr ⟨g, cap, rfl, h.keep ht.size (ht.block g h.lt (hS g h.new))⟩
/-- Four slices of bytes in a row of one's own. -/
theorem pis_row {w : World} {v x0 x1 x2 x3 : Value} {l0 l1 l2 l3 : List UInt8} (h : RowIs w 1 v 4 [x0, x1, x2, x3]) (h0 : BIs w x0 l0) (h1 : BIs w x1 l1) (h2 : BIs w x2 l2) (h3 : BIs w x3 l3) : PIs w v [l0, l1, l2, l3] := by
  obtain ⟨A, cap, rfl, q1, q2, _, _, q3⟩ := h.form
  refine ⟨A, cap, rfl, q1, q2, fun i l hi => ?_⟩
  have key : ∀ (i : Nat) (x : Value) (l : List UInt8), ([x0, x1, x2, x3] : List Value)[i]? = some x → BIs w x l → ∃ (a : Addr) (x : Value), A = some a ∧ a.block < w.heap.size ∧ w.cell? (a.add i) = some x ∧ BIs w x l := fun i x l hx hb => by
    obtain ⟨g, rfl, hc⟩ := q3 i x hx
    exact ⟨_, x, rfl, World.block_lt_of_cell? w ⟨g, i, none⟩ hc, by rw [add0]; exact hc, hb⟩
  match i, hi with
  | 0, hi => cases hi; exact key 0 x0 _ rfl h0
  | 1, hi => cases hi; exact key 1 x1 _ rfl h1
  | 2, hi => cases hi; exact key 2 x2 _ rfl h2
  | 3, hi => cases hi; exact key 3 x3 _ rfl h3
/-- What a message's own bytes are. -/
theorem encB_cases (m : MsgV) (hi : MsgIn m) : encB m = [] ∨ ∃ B : List UInt8, encB m = frameB B ∧ 0 < B.length ∧ B.length ≤ 1000 := by
  unfold encB
  by_cases h : mayM m = true
  · rw [if_pos h]
    refine .inr ⟨bodyM m, rfl, ?_, bodyM_le h hi⟩
    unfold bodyM natsB natB
    simp
  · rw [if_neg h]
    exact .inl rfl
set_option maxRecDepth 100000 in
set_option maxHeartbeats 16000000 in
theorem law_reads {w : World} (hG : Glob w) (hMv : Mov w) {v u : Value} {m : MsgV} (h : MsgAt w v m) (hin : MsgIn m) (hti : m.ti ≤ 9223372036854775807) (at_ : Int) (hat1 : -9223372036854775808 ≤ at_) (hat2 : at_ ≤ 9223372036854775807) (by_ : UInt8) (bit : Int) (hbt1 : -9223372036854775808 ≤ bit) (hbt2 : bit ≤ 9223372036854775807) {lo : List UInt8} (ho : BIs w u lo) :
    Calls Tryz.prog 4 #[v, .int .i64 at_, .int .u8 (by_.toNat : Int), .int .i64 bit, u] w fun e w' => e = .returned (.bool true) ∧ Below w.heap.size w w' := by
  have HG := Lib.hid (And.intro hG hMv)
  have HIN : Hid (MsgIn (cutM m) ∧ (cutM m).ti ≤ 9223372036854775807) := Lib.hid ⟨hin.cut, hti⟩
  have hEc := encB_cases (cutM m) hin.cut
  have hC := h
  obtain ⟨tA0, tc0, oA0, oc0, rfl, _, _⟩ := h
  have hb1 := below_new (w := w) (.cells (cellM m tA0 tc0 oA0 oc0) 26)
  have hl := alloc_at w (.cells (cellM m tA0 tc0 oA0 oc0) 26)
  have HC1 := Lib.hid (lawcut_any (hC.below hb1))
  have HO1 := Lib.hid ho
  obtain ⟨Ao, co, rfl, hco1, hco2, _⟩ := ho
  unfold maxLen at hco2
  obtain ⟨W1, hW1⟩ : ∃ W, W = w.alloc (.cells (cellM m tA0 tc0 oA0 oc0) 26) := ⟨_, rfl⟩
  have HW1 := Lib.hid hW1
  rw [← hW1] at HC1 hb1 hl
  have HB1 := Lib.hid hb1
  generalize cutM m = p at *
  have l0 := cell_of hl 0
  have l1 := cell_of hl 1
  have l2 := cell_of hl 2
  have l3 := cell_of hl 3
  have l4 := cell_of hl 4
  have l5 := cell_of hl 5
  have l6 := cell_of hl 6
  have l7 := cell_of hl 7
  have l8 := cell_of hl 8
  have l9 := cell_of hl 9
  have l10 := cell_of hl 10
  simp at l0 l1 l2 l3 l4 l5 l6 l7 l8 l9 l10
  clear hl hG hMv hin hti hb1 hW1 hC
  obtain ⟨E, hE⟩ : ∃ l, encB p = l := ⟨_, rfl⟩
  rw [hE] at hEc
  have HE := Lib.hid hE
  clear hE
  have HEC := Lib.hid hEc
  have HAT := Lib.hid (And.intro hat1 hat2)
  have HBT := Lib.hid (And.intro hbt1 hbt2)
  clear hEc hat1 hat2 hbt1 hbt2
  obtain ⟨z2, hz2⟩ : ∃ z2 : Int, (by_.toNat : Int) = z2 := ⟨_, rfl⟩
  rw [hz2]
  have HZ2 := Lib.hid hz2
  clear hz2
  go_enter Tryz.func4, Tryz.ntmps4
  go_wp2_with fail
  rw [← HW1.out]
  go_wp2_with fail
  refine (HC1.out).mono ?_
  rintro e w2 ⟨vp, rfl, hm2, hb2⟩
  have HRE := Lib.hid (rEnc_any hm2 HIN.out.1 HIN.out.2)
  rw [HE.out] at HRE
  have HB2 := Lib.hid (HB1.out.trans (hb2.mono HB1.out.size))
  obtain ⟨tA, tc, oA, oc, rfl, _, _, _⟩ := hm2
  clear hb2 l0 l1 l2 l3 l4 l5 l6 l7 l8 l9 l10
  go_wp2_with fail
  refine (HRE.out).mono ?_
  rintro e w3 ⟨v3, rfl, ho3, hb3⟩
  have HO3 := Lib.hid ho3
  have HB3 := Lib.hid (HB2.out.trans (hb3.mono HB2.out.size))
  obtain ⟨A3, c3, rfl⟩ := ho3.len
  have HOC := Lib.hid (HO1.out.below HB3.out)
  clear ho3 hb3 HRE HC1
  go_upto_if 29 with fail
  go_cut [4] from 27 to 31 (fun sv wx => (∃ l2, BIs wx sv l2 ∧ l2.length ≤ 200) ∧ w3 = wx)
  case first =>
    by_cases h200 : 200 < lo.length
    · obtain ⟨ao, rfl⟩ : ∃ ao, Ao = some ao := by
        obtain ⟨A9, c9, e9, _, _, h9⟩ := HOC.out
        injection e9 with e91 _ _
        obtain ⟨b, hb⟩ : ∃ b, lo[0]? = some b := ⟨_, List.getElem?_eq_getElem (by omega)⟩
        obtain ⟨a, e, _⟩ := h9 0 b hb
        exact ⟨a, e91.trans e⟩
      have HF := Lib.hid (HOC.out.front (n := 200) (by omega))
      have hI : (200 : Int) < (lo.length : Int) := by omega
      have hco : 200 ≤ co := by omega
      obtain ⟨N, hN⟩ : ∃ N, lo.length = N := ⟨_, rfl⟩
      rw [hN] at hI hco1 ⊢
      have hNI : (N : Int) ≤ 9223372036854775807 := by omega
      clear h200 hN
      go_wp2_with fail
      go_meet
      exact ⟨⟨_, HF.out, by rw [List.length_take]; omega⟩, rfl⟩
    · have hI : ¬ (200 : Int) < (lo.length : Int) := by omega
      have HLE : Hid (lo.length ≤ 200) := Lib.hid (by omega)
      clear h200
      go_wp2_with fail
      go_meet
      exact ⟨⟨lo, HOC.out, HLE.out⟩, rfl⟩
  case rest =>
    obtain ⟨⟨l2, ho2, hl2⟩, rfl⟩ := hcut
    have HFR := Lib.hid (framed_any ho2 (by omega))
    have HO2 := Lib.hid ho2
    obtain ⟨A2, c2, rfl, _⟩ := ho2
    clear hl2 HOC HO1 hco1 hco2
    go_wp2_with fail
    refine (HFR.out).mono ?_
    rintro e w4 ⟨v4, rfl, ho4, hb4⟩
    obtain ⟨A4, c4, rfl⟩ := ho4.len
    obtain ⟨L2, hL2⟩ : ∃ n, l2.length = n := ⟨_, rfl⟩
    obtain ⟨L4, hL4⟩ : ∃ n, (frameB l2).length = n := ⟨_, rfl⟩
    obtain ⟨NE, hNE⟩ : ∃ n, E.length = n := ⟨_, rfl⟩
    have hpt := new_parts w4 [.slice A3 E.length c3, .slice A2 l2.length c2, .slice A4 (frameB l2).length c4] [E, l2, frameB l2] rfl (by simp) (fun x y z h1 h2 => by
      match x, h1, h2 with
      | 0, h1, h2 => cases h1; cases h2; exact HO3.out.bis.below hb4
      | 1, h1, h2 => cases h1; cases h2; exact HO2.out.below hb4
      | 2, h1, h2 => cases h1; cases h2; exact ho4.bis)
    have hb5 := below_new (w := w4) (.cells #[.slice A3 E.length c3, .slice A2 l2.length c2, .slice A4 (frameB l2).length c4] 28)
    have hat5 := alloc_at w4 (.cells #[.slice A3 E.length c3, .slice A2 l2.length c2, .slice A4 (frameB l2).length c4] 28)
    rw [hL2, hL4, hNE] at hpt hb5 hat5
    rw [hL2, hL4, hNE]
    have HO35 : Hid (OwnBy (w4.alloc (.cells #[.slice A3 NE c3, .slice A2 L2 c2, .slice A4 L4 c4] 28)) w2.heap.size (.slice A3 NE c3) E) := Lib.hid (by
      have := (HO3.out.below hb4).below hb5
      rw [hNE] at this
      exact this)
    obtain ⟨W5, hW5⟩ : ∃ W, W = w4.alloc (.cells #[.slice A3 NE c3, .slice A2 L2 c2, .slice A4 L4 c4] 28) := ⟨_, rfl⟩
    have HW5 := Lib.hid hW5
    rw [← hW5] at hpt hb5 hat5 HO35
    have HPT : Hid (PIs W5 (.slice (some ⟨w4.heap.size, 0, none⟩) 3 3) [E, l2, frameB l2]) := Lib.hid hpt
    have HRW : Hid (RowIs W5 1 (.slice (some ⟨w4.heap.size, 0, none⟩) 3 3) 3 [.slice A3 NE c3, .slice A2 L2 c2, .slice A4 L4 c4]) := Lib.hid (.inr ⟨w4.heap.size, 3, rfl, rfl, Nat.le_refl _, RowC.new3 hat5⟩)
    have HB35 := Lib.hid (hb4.trans (hb5.mono hb4.size))
    have HB45 := Lib.hid hb5
    have HO4 := Lib.hid ho4
    have HS5 : Hid (w4.heap.size < W5.heap.size ∧ w3.heap.size ≤ w4.heap.size) := Lib.hid ⟨heap_lt hat5, hb4.size⟩
    have HB5 := Lib.hid (HB3.out.trans ((hb4.trans (hb5.mono hb4.size)).mono HB3.out.size))
    have HNE := Lib.hid hNE
    have HL := Lib.hid (And.intro hL2 hL4)
    clear ho4 hb4 hpt hb5 hat5 hW5 HFR hL2 hL4 hNE
    go_upto_if 39 with fail
    rw [← HW5.out]
    go_cut [12] from 37 to 66 (fun sv wx => (∃ ls, PIs wx sv ls ∧ ls.length ≤ 4) ∧ Below w3.heap.size w3 wx)
    case first =>
      rcases HEC.out with hE0 | ⟨B, hEB, hB0, hB1⟩
      · have hI : ¬ (7 : Int) < (NE : Int) := by have := HNE.out; rw [hE0] at this; simp at this; omega
        clear hE0
        go_wp2_with fail
        go_meet
        exact ⟨⟨_, HPT.out, by simp⟩, HB35.out⟩
      · obtain ⟨k, hk⟩ : ∃ k, B.length = k := ⟨_, rfl⟩
        have hNk : NE = k + 7 := by rw [← HNE.out, hEB, frameB_len, hk]
        obtain ⟨g, rfl, hoc⟩ : ∃ g, A3 = some ⟨g, 0, none⟩ ∧ OwnC W5 w2.heap.size g c3 E := by
          rcases HO35.out with ⟨_, e⟩ | ⟨g, c, e, h⟩
          · exfalso; have := HNE.out; rw [e] at this; simp at this; omega
          · injection e with e1 e2 e3
            subst e1 e3
            exact ⟨g, rfl, h⟩
        have hI : (7 : Int) < (NE : Int) := by omega
        have hI4 : (NE : Int) - 4 = (k : Int) + 3 := by omega
        have hle := hoc.le
        have hmx := hoc.max
        unfold maxLen at hmx
        have HNEK : Hid (E.length = k + 7) := Lib.hid (by rw [HNE.out, hNk])
        have hle' : k + 3 ≤ c3 := by have := HNE.out; omega
        have hle2 : (k : Int) + 3 ≤ (c3 : Int) := by omega
        have hw4 : IntKind.i64.wrap ((k : Int) + 3) = (k : Int) + 3 := by rw [IntWalk.i64_in _ (by omega)]
        have hb6 := below_new (w := W5) (.cells #[] 5)
        have hown := ownb_empty W5
        have HPA := Lib.hid ((hoc.keep hb6.size (hb6.block g hoc.lt)).part (s := 3) (n := k) (by have := HNEK.out; omega))
        have HKK := Lib.hid (And.intro hB0 (And.intro hB1 hk))
        obtain ⟨D, hD⟩ : ∃ D, D = (E.drop 3).take k := ⟨_, rfl⟩
        have HDL : Hid (D.length = k) := Lib.hid (by rw [hD, List.length_take, List.length_drop]; have := HNEK.out; omega)
        rw [← hD] at HPA
        have HSRC := Lib.hid HPA.out.src
        have HOW := Lib.hid hown
        have HBa := Lib.hid hb6
        have HLn : Hid (([] : List UInt8).length + D.length ≤ 1073741824) := Lib.hid (by have := HDL.out; simp only [List.length_nil]; omega)
        have HG5 := Lib.hid hoc
        have hk0 : 0 < k := by omega
        have hk1 : k ≤ 1000 := by omega
        clear hEB hB0 hB1 hk hle hoc hD hown hb6 hNk
        go_wp2_with (at_builtin; refine wpList_append_by _ rfl _ _ 28 rfl W5.heap.size [] D _ _ rfl rfl HOW.out HSRC.out HLn.out HBa.out.size ?_)
        intro v6 w7 ho6 hg6
        try rw [List.nil_append] at ho6
        have HB7 := Lib.hid (HBa.out.grown hg6 HBa.out.size HOW.out.rows)
        obtain ⟨g6, c6, rfl, hoc6⟩ : ∃ g6 c6, v6 = .slice (some ⟨g6, 0, none⟩) k c6 ∧ OwnC w7 W5.heap.size g6 c6 D := by
          rcases ho6 with ⟨_, e⟩ | ⟨g, c, e, h⟩
          · exfalso; have := HDL.out; rw [e] at this; simp at this; omega
          · exact ⟨g, c, by rw [e, HDL.out], h⟩
        have HC6 := Lib.hid hoc6
        obtain ⟨m2, hm2, hmm2⟩ := tmod_cases at_ k hk0
        have l1 : ((k : Int) == 0) = false := by rw [beq_eq_false_iff_ne]; omega
        have l2' : ¬ (k : Int) = 0 := by omega
        have HM2 := Lib.hid hm2
        have HK01 := Lib.hid (And.intro hk0 hk1)
        have hmI : (m2 : Int) ≤ 20000 := by omega
        obtain ⟨y, hy⟩ : ∃ y, at_.tmod (k : Int) = y := ⟨_, rfl⟩
        rw [hy] at hmm2
        clear ho6 hg6 hoc6 hm2 hI hI4 hmx hle' hle2 hw4 hk0 hk1
        go_upto_if 52 with fail
        go_cut [14] from 47 to 54 (fun s2 wx => s2 = .int .i64 (m2 : Int) ∧ w7 = wx)
        case first =>
          rcases hmm2 with h9 | ⟨h0, h9⟩
          · have q1 : ¬ y < 0 := by omega
            clear hy
            subst h9
            go_wp2_with fail
            go_meet
            exact ⟨rfl, rfl⟩
          · have q1 : y < 0 := by omega
            have q2 : IntKind.i64.wrap (-y) = (m2 : Int) := by rw [h9, Int.neg_neg]; exact IntWalk.i64_in _ (by omega)
            clear h9 hy
            go_wp2_with fail
            go_meet
            exact ⟨rfl, rfl⟩
        case rest =>
          obtain ⟨rfl, rfl⟩ := hcut
          clear hmm2 hy l1 l2'
          obtain ⟨xb, hrm⟩ : ∃ xb, D[m2]? = some xb := ⟨_, List.getElem?_eq_getElem (by rw [HDL.out]; exact HM2.out)⟩
          have hcm := HC6.out.holds m2 _ hrm
          have hm6 : m2 < c6 := Nat.lt_of_lt_of_le HM2.out (by have := HC6.out.le; rw [HDL.out] at this; exact this)
          have hfm := (HC6.out.there m2 hm6).2
          have hnew := HC6.out.set (k := m2) (by rw [HDL.out]; exact HM2.out) (xb ^^^ by_)
          have hxor := u8_xor xb by_
          rw [← hxor] at hnew
          have l3 : (m2 : Int) < (k : Int) := by have := HM2.out; omega
          have l4 : k ≤ c6 := by have := HC6.out.le; rw [HDL.out] at this; exact this
          have hmxc := HC6.out.max
          unfold maxLen at hmxc
          have HNEW : Hid (OwnC (w7.setCell ⟨g6, m2, none⟩ (.int .u8 (bits .xor .u8 (xb.toNat : Int) (by_.toNat : Int)))) W5.heap.size g6 c6 (D.set m2 (xb ^^^ by_))) := Lib.hid hnew
          have HB8 : Hid (Below W5.heap.size W5 (w7.setCell ⟨g6, m2, none⟩ (.int .u8 (bits .xor .u8 (xb.toNat : Int) (by_.toNat : Int))))) := Lib.hid (HB7.out.setCell (show _ ≤ g6 from HC6.out.new) _)
          have hadd : (⟨g6, 0, none⟩ : Addr).add m2 = ⟨g6, m2, none⟩ := add0 _ _
          clear hrm hnew hxor hm6
          obtain ⟨z1, hz1⟩ : ∃ z1 : Int, (xb.toNat : Int) = z1 := ⟨_, rfl⟩
          rw [hz1, HZ2.out] at HNEW HB8
          rw [hz1] at hcm
          clear hz1
          obtain ⟨w8, hw8⟩ : ∃ w8, w8 = w7.setCell ⟨g6, m2, none⟩ (.int .u8 (bits .xor .u8 z1 z2)) := ⟨_, rfl⟩
          rw [← hw8] at HNEW HB8
          have HW8 := Lib.hid hw8
          have hfb : BIs w8 (.slice (some ⟨g6, 0, none⟩) k c6) (D.set m2 (xb ^^^ by_)) := by
            have h : OwnBy w8 W5.heap.size (.slice (some ⟨g6, 0, none⟩) (D.set m2 (xb ^^^ by_)).length c6) (D.set m2 (xb ^^^ by_)) := .inr ⟨g6, c6, rfl, HNEW.out⟩
            have := h.bis
            rw [List.length_set, HDL.out] at this
            exact this
          have HFR8 := Lib.hid (framed_any hfb (by rw [List.length_set, HDL.out]; have := HK01.out; omega))
          clear hw8 hfb
          go_wp2_with fail
          rw [← HW8.out]
          refine (HFR8.out).mono ?_
          rintro e w9 ⟨v9, rfl, ho9, hb9⟩
          obtain ⟨A9, c9, rfl⟩ := ho9.len
          obtain ⟨F9, hF9⟩ : ∃ F, F = frameB (D.set m2 (xb ^^^ by_)) := ⟨_, rfl⟩
          rw [← hF9] at ho9 ⊢
          obtain ⟨L9, hL9⟩ : ∃ n, F9.length = n := ⟨_, rfl⟩
          have hbn := below_new (w := w9) (.cells #[.slice A9 L9 c9] 28)
          have hat := alloc_at w9 (.cells #[.slice A9 L9 c9] 28)
          rw [hL9] at ho9 ⊢
          have HB9 := Lib.hid (HB8.out.trans (hb9.mono HB8.out.size))
          have HB10 := Lib.hid ((HB8.out.trans (hb9.mono HB8.out.size)).trans (hbn.mono (HB8.out.trans (hb9.mono HB8.out.size)).size))
          have HSL := Lib.hid (src_sl hat rfl)
          have HRW9 := Lib.hid (HRW.out.below HB10.out)
          have HO9 : Hid (OwnBy (w9.alloc (.cells #[.slice A9 L9 c9] 28)) W5.heap.size (.slice A9 L9 c9) F9) := Lib.hid ((ho9.lower HB8.out.size).below hbn)
          clear hF9 hL9 ho9 hb9 hbn hat hcm hfm l3 l4 hmxc hadd hmI
          go_wp2_with (at_builtin; refine wpList_append_row _ _ Tryz.underlying44 infoB rfl (by decide) (by decide) _ rfl _ _ 44 rfl 3 1 [.slice (some ⟨g, 0, none⟩) NE c3, .slice A2 L2 c2, .slice A4 L4 c4] [.slice A9 L9 c9] _ _ rfl rfl HRW9.out HSL.out ?_ ?_)
          all_goals first | omega | skip
          intro v' w' hr5 hg5 _
          have ht := (Touch.refl (fun k => k = w4.heap.size) (w9.alloc (.cells #[.slice A9 L9 c9] 28))).grown hg5 (fun k e _ => by cases e; rfl)
          have hB3' : Below w3.heap.size w3 w' := (HB35.out.trans (HB10.out.mono HB35.out.size)).trans (ht.below (fun i e => by rw [e]; exact HS5.out.2) (HB35.out.trans (HB10.out.mono HB35.out.size)).size)
          have hB4' : Below w4.heap.size w4 w' := (HB45.out.trans (HB10.out.mono HB45.out.size)).trans (ht.below (fun i e => by rw [e]; exact Nat.le_refl _) (HB45.out.trans (HB10.out.mono HB45.out.size)).size)
          have hp : PIs w' v' [E, l2, frameB l2, F9] := pis_row hr5 (by have := HO3.out.bis.below hB3'; rw [HNE.out] at this; exact this) (by have := HO2.out.below hB3'; rw [HL.out.1] at this; exact this) (by have := HO4.out.bis.below hB4'; rw [HL.out.2] at this; exact this) (HO9.out.touch ht (fun k hk e => by have := HS5.out.1; omega)).bis
          have HP := Lib.hid (And.intro hp hB3')
          obtain ⟨Av', cv', rfl, _⟩ := hr5.form
          clear hr5 hg5 ht hB3' hB4' hp
          go_wp2_with fail
          go_meet
          exact ⟨⟨_, HP.out.1, by simp⟩, HP.out.2⟩
    case rest =>
      obtain ⟨⟨ls, hp, hl4⟩, hbc⟩ := hcut
      obtain ⟨As, csx, rfl, hs1, hs2, hs3⟩ := hp
      obtain ⟨L, hL⟩ : ∃ n, ls.length = n := ⟨_, rfl⟩
      rw [hL] at hs1 hl4 ⊢
      have HLL := Lib.hid hL
      have HEL := Lib.hid hs3
      have HBC := Lib.hid hbc
      have HBW := Lib.hid (HB3.out.trans (hbc.mono HB3.out.size))
      clear hL hs3 hbc hs1 hs2
      go_wp2_with fail
      go_loopw [69] (fun iv wr => ∃ i : Nat, i ≤ L ∧ iv = .int .i64 i ∧ Below wc.heap.size wc wr) (fun iv _ => L - (intOf iv).toNat)
      case atStart => exact ⟨0, Nat.zero_le _, rfl, Below.refl _ _⟩
      case round =>
        obtain ⟨i, hi, rfl, hbr⟩ := hrel
        by_cases hlt : i < L
        · obtain ⟨lx, hlx⟩ : ∃ lx, ls[i]? = some lx := ⟨_, List.getElem?_eq_getElem (by rw [HLL.out]; exact hlt)⟩
          obtain ⟨ax, xv, rfl, q1, hcell, hbx⟩ := HEL.out i lx hlx
          replace hcell := (hbr.cell (p := ax.add i) (by rw [add_block]; exact q1)).trans hcell
          replace hbx := hbx.below hbr
          have hGr := HG.out.1.below (HBW.out.trans (hbr.mono HBW.out.size))
          have hMr := HG.out.2.below (HBW.out.trans (hbr.mono HBW.out.size))
          have HGR := Lib.hid (And.intro hGr hMr)
          have HDE := Lib.hid (Decode_any hGr hMr hbx)
          have HRD : Hid (∀ W, Below wr.heap.size wr W → Calls Tryz.prog 16 #[xv] W (RDec W (decM lx))) := Lib.hid (fun W hW => by rw [← decR_eq]; exact rdec_any (hbx.below hW))
          obtain ⟨Ax, cx, rfl, _⟩ := id hbx
          obtain ⟨xn, hxn⟩ : ∃ n, lx.length = n := ⟨_, rfl⟩
          rw [hxn] at hbx hcell HDE HRD
          have HBX := Lib.hid hbx
          have HBR := Lib.hid hbr
          have HLT : Hid (i + 1 ≤ L) := Lib.hid (by omega)
          have hiI : (i : Int) < (L : Int) := by omega
          clear hlx q1 hbx hGr hMr hbr hlt hi hxn
          go_wp2_with fail
          refine (HDE.out).mono ?_
          rintro e w6 ⟨hb6, hcase⟩
          rcases hcase with ⟨hdx, rfl⟩ | ⟨d, vd, hdx, rfl, hmd⟩
          · have HDX := Lib.hid hdx
            clear hdx hcell
            have hb7 := below_new (w := w6) (.cells #[.int .i64 0, .int .i64 0, .int .i64 0, .int .i64 0, .int .i64 0, .int .i64 0, .int .i64 0, .int .i64 0, .int .i64 0, .slice none 0 0, .slice none 0 0] 33)
            have hat7 := alloc_at w6 (.cells #[.int .i64 0, .int .i64 0, .int .i64 0, .int .i64 0, .int .i64 0, .int .i64 0, .int .i64 0, .int .i64 0, .int .i64 0, .slice none 0 0, .slice none 0 0] 33)
            obtain ⟨W7, hW7⟩ : ∃ W, W = w6.alloc (.cells #[.int .i64 0, .int .i64 0, .int .i64 0, .int .i64 0, .int .i64 0, .int .i64 0, .int .i64 0, .int .i64 0, .int .i64 0, .slice none 0 0, .slice none 0 0] 33) := ⟨_, rfl⟩
            have HW7 := Lib.hid hW7
            rw [← hW7] at hb7 hat7
            have HB7 := Lib.hid (hb6.trans (hb7.mono hb6.size))
            have HA7 := Lib.hid hat7
            clear hb6 hb7 hat7 hW7
            go_wp2_with fail
            rw [← HW7.out]
            refine (HRD.out _ HB7.out).mono ?_
            rintro e w8 ⟨hb8, hc8⟩
            rcases hc8 with ⟨_, rfl⟩ | ⟨d2, vr, hd2, _, _⟩
            case inr => rw [HDX.out] at hd2; cases hd2
            have hb9 := below_new (w := w8) (.cells #[.int .i64 0, .int .i64 0, .int .i64 0, .int .i64 0, .int .i64 0, .int .i64 0, .int .i64 0, .int .i64 0, .int .i64 0, .slice none 0 0, .slice none 0 0] 26)
            have hat9 := alloc_at w8 (.cells #[.int .i64 0, .int .i64 0, .int .i64 0, .int .i64 0, .int .i64 0, .int .i64 0, .int .i64 0, .int .i64 0, .int .i64 0, .slice none 0 0, .slice none 0 0] 26)
            obtain ⟨W9, hW9⟩ : ∃ W, W = w8.alloc (.cells #[.int .i64 0, .int .i64 0, .int .i64 0, .int .i64 0, .int .i64 0, .int .i64 0, .int .i64 0, .int .i64 0, .int .i64 0, .slice none 0 0, .slice none 0 0] 26) := ⟨_, rfl⟩
            have HW9 := Lib.hid hW9
            rw [← hW9] at hb9 hat9
            have h7 := ((hb8.trans (hb9.mono hb8.size)).block _ (heap_lt HA7.out)).trans HA7.out
            obtain ⟨b17, hb17⟩ : ∃ b, w6.heap.size = b := ⟨_, rfl⟩
            obtain ⟨b19, hb19⟩ : ∃ b, w8.heap.size = b := ⟨_, rfl⟩
            have HB9 := Lib.hid (HB7.out.trans ((hb8.trans (hb9.mono hb8.size)).mono HB7.out.size))
            have hbi := HBX.out.below HB9.out
            have HM9 : Hid (∀ W, Below W9.heap.size W9 W → MsgIs W (.agg #[.int .i64 0, .int .i64 0, .int .i64 0, .int .i64 0, .int .i64 0, .int .i64 0, .int .i64 0, .int .i64 0, .int .i64 0, .slice none 0 0, .slice none 0 0]) ⟨0, 0, 0, 0, 0, 0, 0, 0, 0, [], []⟩ ∧ MsgIs W (.agg #[.int .i64 0, .int .i64 0, .int .i64 0, .int .i64 0, .int .i64 0, .int .i64 0, .int .i64 0, .int .i64 0, .int .i64 0, .slice none 0 0, .slice none 0 0]) ⟨0, 0, 0, 0, 0, 0, 0, 0, 0, [], []⟩) := Lib.hid (fun W hW => ⟨⟨none, 0, none, 0, rfl, NumsAt.nil _, OpsAt.nil _, fun o h => by cases h⟩, ⟨none, 0, none, 0, rfl, NumsAt.nil _, OpsAt.nil _, fun o h => by cases h⟩⟩)
            rw [hb17] at h7
            rw [hb19] at hat9
            have HSC : Hid (∀ W, Below W9.heap.size W9 W → (W.cell? ⟨b17, 0, none⟩ = some (.int .i64 0) ∧ W.cell? ⟨b17, 1, none⟩ = some (.int .i64 0) ∧ W.cell? ⟨b17, 2, none⟩ = some (.int .i64 0) ∧ W.cell? ⟨b17, 3, none⟩ = some (.int .i64 0) ∧ W.cell? ⟨b17, 4, none⟩ = some (.int .i64 0) ∧ W.cell? ⟨b17, 5, none⟩ = some (.int .i64 0) ∧ W.cell? ⟨b17, 6, none⟩ = some (.int .i64 0) ∧ W.cell? ⟨b17, 7, none⟩ = some (.int .i64 0) ∧ W.cell? ⟨b17, 8, none⟩ = some (.int .i64 0) ∧ W.cell? ⟨b17, 9, none⟩ = some (.slice none 0 0) ∧ W.cell? ⟨b17, 10, none⟩ = some (.slice none 0 0) ∧ W.cell? ⟨b19, 0, none⟩ = some (.int .i64 0) ∧ W.cell? ⟨b19, 1, none⟩ = some (.int .i64 0) ∧ W.cell? ⟨b19, 2, none⟩ = some (.int .i64 0) ∧ W.cell? ⟨b19, 3, none⟩ = some (.int .i64 0) ∧ W.cell? ⟨b19, 4, none⟩ = some (.int .i64 0) ∧ W.cell? ⟨b19, 5, none⟩ = some (.int .i64 0) ∧ W.cell? ⟨b19, 6, none⟩ = some (.int .i64 0) ∧ W.cell? ⟨b19, 7, none⟩ = some (.int .i64 0) ∧ W.cell? ⟨b19, 8, none⟩ = some (.int .i64 0) ∧ W.cell? ⟨b19, 9, none⟩ = some (.slice none 0 0) ∧ W.cell? ⟨b19, 10, none⟩ = some (.slice none 0 0)) ∧ BIs W (.slice Ax xn cx) lx) := Lib.hid (fun W hW => by
              have hm := (hW.block _ (heap_lt h7)).trans h7
              have hn := (hW.block _ (heap_lt hat9)).trans hat9
              exact ⟨⟨cell_of hm 0, cell_of hm 1, cell_of hm 2, cell_of hm 3, cell_of hm 4, cell_of hm 5, cell_of hm 6, cell_of hm 7, cell_of hm 8, cell_of hm 9, cell_of hm 10, cell_of hn 0, cell_of hn 1, cell_of hn 2, cell_of hn 3, cell_of hn 4, cell_of hn 5, cell_of hn 6, cell_of hn 7, cell_of hn 8, cell_of hn 9, cell_of hn 10⟩, hbi.below hW⟩)
            have HGW := Lib.hid (fun W (hW : Below W9.heap.size W9 W) => And.intro (HGR.out.1.below (HB9.out.trans (hW.mono HB9.out.size))) (HGR.out.2.below (HB9.out.trans (hW.mono HB9.out.size))))
            have HBZ := Lib.hid (And.intro hb17 hb19)
            rw [hb17]
            clear hb8 hb9 hat9 hW9 h7 hbi
            go_wp2_with fail
            rw [← HW9.out]
            try rw [hb19]
            clear hb17 hb19
            refine wp_only ?_
            refine wp_region_held_drew (S := fun W => (W.cell? ⟨b17, 0, none⟩ = some (.int .i64 0) ∧ W.cell? ⟨b17, 1, none⟩ = some (.int .i64 0) ∧ W.cell? ⟨b17, 2, none⟩ = some (.int .i64 0) ∧ W.cell? ⟨b17, 3, none⟩ = some (.int .i64 0) ∧ W.cell? ⟨b17, 4, none⟩ = some (.int .i64 0) ∧ W.cell? ⟨b17, 5, none⟩ = some (.int .i64 0) ∧ W.cell? ⟨b17, 6, none⟩ = some (.int .i64 0) ∧ W.cell? ⟨b17, 7, none⟩ = some (.int .i64 0) ∧ W.cell? ⟨b17, 8, none⟩ = some (.int .i64 0) ∧ W.cell? ⟨b17, 9, none⟩ = some (.slice none 0 0) ∧ W.cell? ⟨b17, 10, none⟩ = some (.slice none 0 0) ∧ W.cell? ⟨b19, 0, none⟩ = some (.int .i64 0) ∧ W.cell? ⟨b19, 1, none⟩ = some (.int .i64 0) ∧ W.cell? ⟨b19, 2, none⟩ = some (.int .i64 0) ∧ W.cell? ⟨b19, 3, none⟩ = some (.int .i64 0) ∧ W.cell? ⟨b19, 4, none⟩ = some (.int .i64 0) ∧ W.cell? ⟨b19, 5, none⟩ = some (.int .i64 0) ∧ W.cell? ⟨b19, 6, none⟩ = some (.int .i64 0) ∧ W.cell? ⟨b19, 7, none⟩ = some (.int .i64 0) ∧ W.cell? ⟨b19, 8, none⟩ = some (.int .i64 0) ∧ W.cell? ⟨b19, 9, none⟩ = some (.slice none 0 0) ∧ W.cell? ⟨b19, 10, none⟩ = some (.slice none 0 0)) ∧ BIs W (.slice Ax xn cx) lx) (by kernel_rfl) (HSC.out _ (below_drew (Below.refl _ _))) (fun hHeld => ?_)
            refine wpAnyH_take (i := 0) (oi := { dst := some 83, op := Op.move (Operand.tmp 18), type := 22, pos := "law.go:70", after := #[], guard := none }) (v := ?vv1) rfl (by kernel_rfl) (by kernel_rfl) (by kernel_rfl) (fun _ _ _ h => h) ?hy1 (by assumption) ?rest1
            case hy1 => (refine Or.inl ⟨by rfl, ?_⟩; intro W hSw; (try dsimp only at hSw); go_simp; (try with_reducible rfl))
            try simp only [Act.put, List.setIfInBounds_toArray, List.set_cons_zero, List.set_cons_succ]
            refine wpAnyH_take (i := 1) (oi := { dst := some 84, op := Op.binOp BinOp.eql 22 (Operand.tmp 83) (Operand.const (Value.int IntKind.i64 0)) 22, type := 4, pos := "law.go:70", after := #[{ on := 0, ground := Ground.data }], guard := none }) (v := (.bool false)) rfl (by kernel_rfl) (by kernel_rfl) (by kernel_rfl) (fun _ _ _ h => h) ?hy2 (by assumption) ?rest2
            case hy2 => ((refine Or.inl ⟨by rfl, ?_⟩; intro W hSw; (try dsimp only at hSw); go_simp; (try simp)))
            try simp only [Act.put, List.setIfInBounds_toArray, List.set_cons_zero, List.set_cons_succ]
            refine wpAnyH_take (i := 2) (oi := { dst := some 85, op := Op.move (Operand.tmp 20), type := 4, pos := "law.go:70", after := #[], guard := none }) (v := ?vv3) rfl (by kernel_rfl) (by kernel_rfl) (by kernel_rfl) (fun _ _ _ h => h) ?hy3 (by assumption) ?rest3
            case hy3 => (refine Or.inl ⟨by rfl, ?_⟩; intro W hSw; (try dsimp only at hSw); go_simp; (try with_reducible rfl))
            try simp only [Act.put, List.setIfInBounds_toArray, List.set_cons_zero, List.set_cons_succ]
            refine wpAnyH_take (i := 3) (oi := { dst := some 86, op := Op.binOp BinOp.neq 4 (Operand.tmp 84) (Operand.tmp 85) 4, type := 4, pos := "law.go:70", after := #[{ on := 1, ground := Ground.data }, { on := 2, ground := Ground.data }], guard := none }) (v := (.bool false)) rfl (by kernel_rfl) (by kernel_rfl) (by kernel_rfl) (fun _ _ _ h => h) ?hy4 (by assumption) ?rest4
            case hy4 => ((refine Or.inl ⟨by rfl, ?_⟩; intro W hSw; (try dsimp only at hSw); go_simp; (try simp)))
            try simp only [Act.put, List.setIfInBounds_toArray, List.set_cons_zero, List.set_cons_succ]
            refine wpAnyH_take (i := 4) (oi := { dst := some 87, op := Op.move (Operand.tmp 86), type := 4, pos := "law.go:70", after := #[{ on := 3, ground := Ground.data }], guard := none }) (v := ?vv5) rfl (by kernel_rfl) (by kernel_rfl) (by kernel_rfl) (fun _ _ _ h => h) ?hy5 (by assumption) ?rest5
            case hy5 => (refine Or.inl ⟨by rfl, ?_⟩; intro W hSw; (try dsimp only at hSw); go_simp; (try with_reducible rfl))
            try simp only [Act.put, List.setIfInBounds_toArray, List.set_cons_zero, List.set_cons_succ]
            refine wpAnyH_take (i := 5) (oi := { dst := some 88, op := Op.move (Operand.tmp 20), type := 4, pos := "law.go:70", after := #[{ on := 4, ground := Ground.guard }], guard := some (4, false) }) (v := ?vv6) rfl (by kernel_rfl) (by kernel_rfl) (by kernel_rfl) (fun _ _ _ h => h) ?hy6 (by assumption) ?rest6
            case hy6 => (refine Or.inl ⟨by rfl, ?_⟩; intro W hSw; (try dsimp only at hSw); go_simp; (try with_reducible rfl))
            try simp only [Act.put, List.setIfInBounds_toArray, List.set_cons_zero, List.set_cons_succ]
            refine wpAnyH_take (i := 6) (oi := { dst := some 89, op := Op.unOp UnOp.not 4 (Operand.tmp 88), type := 4, pos := "law.go:70", after := #[{ on := 5, ground := Ground.data }, { on := 4, ground := Ground.guard }], guard := some (4, false) }) (v := (.bool true)) rfl (by kernel_rfl) (by kernel_rfl) (by kernel_rfl) (fun _ _ _ h => h) ?hy7 (by assumption) ?rest7
            case hy7 => ((refine Or.inl ⟨by rfl, ?_⟩; intro W hSw; (try dsimp only at hSw); go_simp; (try simp)))
            try simp only [Act.put, List.setIfInBounds_toArray, List.set_cons_zero, List.set_cons_succ]
            refine wpAnyH_take (i := 7) (oi := { dst := some 90, op := Op.move (Operand.tmp 89), type := 4, pos := "law.go:70", after := #[{ on := 6, ground := Ground.data }, { on := 4, ground := Ground.chain }, { on := 4, ground := Ground.guard }], guard := some (4, false) }) (v := ?vv8) rfl (by kernel_rfl) (by kernel_rfl) (by kernel_rfl) (fun _ _ _ h => h) ?hy8 (by assumption) ?rest8
            case hy8 => (refine Or.inl ⟨by rfl, ?_⟩; intro W hSw; (try dsimp only at hSw); go_simp; (try with_reducible rfl))
            try simp only [Act.put, List.setIfInBounds_toArray, List.set_cons_zero, List.set_cons_succ]
            refine wpAnyH_take (i := 8) (oi := { dst := some 91, op := Op.move (Operand.tmp 18), type := 22, pos := "law.go:70", after := #[{ on := 7, ground := Ground.guard }], guard := some (7, true) }) (v := ?vv9) rfl (by kernel_rfl) (by kernel_rfl) (by kernel_rfl) (fun _ _ _ h => h) ?hy9 (by assumption) ?rest9
            case hy9 => (refine Or.inl ⟨by rfl, ?_⟩; intro W hSw; (try dsimp only at hSw); go_simp; (try with_reducible rfl))
            try simp only [Act.put, List.setIfInBounds_toArray, List.set_cons_zero, List.set_cons_succ]
            refine wpAnyH_take (i := 9) (oi := { dst := some 92, op := Op.binOp BinOp.neq 22 (Operand.tmp 91) (Operand.const (Value.int IntKind.i64 6)) 22, type := 4, pos := "law.go:70", after := #[{ on := 8, ground := Ground.data }, { on := 7, ground := Ground.guard }], guard := some (7, true) }) (v := (.bool false)) rfl (by kernel_rfl) (by kernel_rfl) (by kernel_rfl) (fun _ _ _ h => h) ?hy10 (by assumption) ?rest10
            case hy10 => ((refine Or.inl ⟨by rfl, ?_⟩; intro W hSw; (try dsimp only at hSw); go_simp; (try simp)))
            try simp only [Act.put, List.setIfInBounds_toArray, List.set_cons_zero, List.set_cons_succ]
            refine wpAnyH_take (i := 10) (oi := { dst := some 93, op := Op.pick (Operand.tmp 90) (Operand.tmp 92) (Operand.const (Value.bool false)), type := 4, pos := "law.go:70", after := #[{ on := 7, ground := Ground.data }, { on := 9, ground := Ground.data }, { on := 4, ground := Ground.guard }], guard := some (4, false) }) (v := (.bool false)) rfl (by kernel_rfl) (by kernel_rfl) (by kernel_rfl) (fun _ _ _ h => h) ?hy11 (by assumption) ?rest11
            case hy11 => ((refine Or.inl ⟨by rfl, ?_⟩; intro W hSw; (try dsimp only at hSw); go_simp; (try simp)))
            try simp only [Act.put, List.setIfInBounds_toArray, List.set_cons_zero, List.set_cons_succ]
            refine wpAnyH_take (i := 11) (oi := { dst := some 94, op := Op.pick (Operand.tmp 87) (Operand.const (Value.bool true)) (Operand.tmp 93), type := 4, pos := "law.go:70", after := #[{ on := 4, ground := Ground.data }, { on := 10, ground := Ground.data }], guard := none }) (v := (.bool false)) rfl (by kernel_rfl) (by kernel_rfl) (by kernel_rfl) (fun _ _ _ h => h) ?hy12 (by assumption) ?rest12
            case hy12 => ((refine Or.inl ⟨by rfl, ?_⟩; intro W hSw; (try dsimp only at hSw); go_simp; (try simp)))
            try simp only [Act.put, List.setIfInBounds_toArray, List.set_cons_zero, List.set_cons_succ]
            refine wpAnyH_take (i := 12) (oi := { dst := some 95, op := Op.move (Operand.tmp 94), type := 4, pos := "law.go:70", after := #[{ on := 11, ground := Ground.data }, { on := 7, ground := Ground.chain }], guard := none }) (v := ?vv13) rfl (by kernel_rfl) (by kernel_rfl) (by kernel_rfl) (fun _ _ _ h => h) ?hy13 (by assumption) ?rest13
            case hy13 => (refine Or.inl ⟨by rfl, ?_⟩; intro W hSw; (try dsimp only at hSw); go_simp; (try with_reducible rfl))
            try simp only [Act.put, List.setIfInBounds_toArray, List.set_cons_zero, List.set_cons_succ]
            refine wpAnyH_take (i := 13) (oi := { dst := some 96, op := Op.load 33 (Operand.tmp 17), type := 33, pos := "law.go:70", after := #[{ on := 12, ground := Ground.guard }], guard := some (12, false) }) (v := ?vv14) rfl (by kernel_rfl) (by kernel_rfl) (by kernel_rfl) (fun _ _ _ h => h) ?hy14 (by assumption) ?rest14
            case hy14 => (refine Or.inl ⟨by rfl, ?_⟩; intro W hSw; (try dsimp only at hSw); go_simp; (try with_reducible rfl))
            try simp only [Act.put, List.setIfInBounds_toArray, List.set_cons_zero, List.set_cons_succ]
            refine wpAnyH_take (i := 15) (oi := { dst := some 98, op := Op.load 26 (Operand.tmp 19), type := 26, pos := "law.go:70", after := #[{ on := 12, ground := Ground.guard }], guard := some (12, false) }) (v := ?vv15) rfl (by kernel_rfl) (by kernel_rfl) (by kernel_rfl) (fun _ _ _ h => h) ?hy15 (by assumption) ?rest15
            case hy15 => (refine Or.inl ⟨by rfl, ?_⟩; intro W hSw; (try dsimp only at hSw); go_simp; (try with_reducible rfl))
            try simp only [Act.put, List.setIfInBounds_toArray, List.set_cons_zero, List.set_cons_succ]
            refine wpAnyH_ready (rs := [14]) (by kernel_rfl) (by simp) ?_
            refine AllReadyH.cons (o := { dst := some 97, op := Op.call { callee := Callee.value (Operand.func 14), args := #[Operand.tmp 96], argTypes := #[33] }, type := 26, pos := "law.go:70", after := #[{ on := 13, ground := Ground.data }, { on := 12, ground := Ground.chain }, { on := 12, ground := Ground.guard }], guard := some (12, false) }) rfl (fun K hK => ?step16) ?more16
            case more16 => exact AllReadyH.nil
            ((go_simp; go_at_call 14; refine (plain_m (HM9.out _ (below_drew (Below.refl _ W9))).1).mono ?_; rintro e x1 ⟨rfl, hbn⟩; have X1 := Lib.hid (below_of_drew hbn); clear hbn; go_wp2_with fail))
            refine hK.out _ _ ?hS16 (fun hHeld => ?rr16)
            case hS16 => (exact HSC.out _ X1.out)
            clear hK K
            try simp only [Act.put, List.setIfInBounds_toArray, List.set_cons_zero, List.set_cons_succ]
            have HSM := Lib.hid (rsame_any (HM9.out _ X1.out).1 (HM9.out _ X1.out).2)
            rw [decide_eq_true rfl] at HSM
            refine wpAnyH_ready (rs := [16]) (by kernel_rfl) (by simp) ?_
            refine AllReadyH.cons (o := { dst := some 99, op := Op.call { callee := Callee.value (Operand.func 13), args := #[Operand.tmp 97, Operand.tmp 98], argTypes := #[26, 26] }, type := 4, pos := "law.go:70", after := #[{ on := 14, ground := Ground.data }, { on := 15, ground := Ground.data }, { on := 14, ground := Ground.chain }, { on := 12, ground := Ground.guard }], guard := some (12, false) }) rfl (fun K hK => ?step17) ?more17
            case more17 => exact AllReadyH.nil
            ((go_simp; go_at_call 13; refine (HSM.out).mono ?_; rintro e x2 ⟨rfl, hbn⟩; have X2 := Lib.hid (X1.out.trans (hbn.mono X1.out.size)); clear hbn; go_wp2_with fail))
            refine hK.out _ _ ?hS17 (fun hHeld => ?rr17)
            case hS17 => (exact HSC.out _ X2.out)
            clear hK K
            try simp only [Act.put, List.setIfInBounds_toArray, List.set_cons_zero, List.set_cons_succ]
            refine wpAnyH_take (i := 17) (oi := { dst := some 100, op := Op.unOp UnOp.not 4 (Operand.tmp 99), type := 4, pos := "law.go:70", after := #[{ on := 16, ground := Ground.data }, { on := 12, ground := Ground.guard }], guard := some (12, false) }) (v := (.bool false)) rfl (by kernel_rfl) (by kernel_rfl) (by kernel_rfl) (fun _ _ _ h => h) ?hy18 (by assumption) ?rest18
            case hy18 => ((refine Or.inl ⟨by rfl, ?_⟩; intro W hSw; (try dsimp only at hSw); go_simp; (try simp)))
            try simp only [Act.put, List.setIfInBounds_toArray, List.set_cons_zero, List.set_cons_succ]
            refine wpAnyH_take (i := 18) (oi := { dst := some 101, op := Op.pick (Operand.tmp 95) (Operand.const (Value.bool true)) (Operand.tmp 100), type := 4, pos := "law.go:70", after := #[{ on := 12, ground := Ground.data }, { on := 17, ground := Ground.data }], guard := none }) (v := (.bool false)) rfl (by kernel_rfl) (by kernel_rfl) (by kernel_rfl) (fun _ _ _ h => h) ?hy19 (by assumption) ?rest19
            case hy19 => ((refine Or.inl ⟨by rfl, ?_⟩; intro W hSw; (try dsimp only at hSw); go_simp; (try simp)))
            try simp only [Act.put, List.setIfInBounds_toArray, List.set_cons_zero, List.set_cons_succ]
            refine wpAnyH_take (i := 19) (oi := { dst := some 102, op := Op.move (Operand.tmp 101), type := 4, pos := "law.go:70", after := #[{ on := 18, ground := Ground.data }, { on := 16, ground := Ground.chain }], guard := none }) (v := ?vv20) rfl (by kernel_rfl) (by kernel_rfl) (by kernel_rfl) (fun _ _ _ h => h) ?hy20 (by assumption) ?rest20
            case hy20 => (refine Or.inl ⟨by rfl, ?_⟩; intro W hSw; (try dsimp only at hSw); go_simp; (try with_reducible rfl))
            try simp only [Act.put, List.setIfInBounds_toArray, List.set_cons_zero, List.set_cons_succ]
            refine wpAnyH_take (i := 20) (oi := { dst := some 103, op := Op.move (Operand.tmp 20), type := 4, pos := "law.go:70", after := #[{ on := 19, ground := Ground.guard }], guard := some (19, false) }) (v := ?vv21) rfl (by kernel_rfl) (by kernel_rfl) (by kernel_rfl) (fun _ _ _ h => h) ?hy21 (by assumption) ?rest21
            case hy21 => (refine Or.inl ⟨by rfl, ?_⟩; intro W hSw; (try dsimp only at hSw); go_simp; (try with_reducible rfl))
            try simp only [Act.put, List.setIfInBounds_toArray, List.set_cons_zero, List.set_cons_succ]
            refine wpAnyH_take (i := 21) (oi := { dst := some 104, op := Op.move (Operand.tmp 103), type := 4, pos := "law.go:70", after := #[{ on := 20, ground := Ground.data }, { on := 19, ground := Ground.chain }, { on := 19, ground := Ground.guard }], guard := some (19, false) }) (v := ?vv22) rfl (by kernel_rfl) (by kernel_rfl) (by kernel_rfl) (fun _ _ _ h => h) ?hy22 (by assumption) ?rest22
            case hy22 => (refine Or.inl ⟨by rfl, ?_⟩; intro W hSw; (try dsimp only at hSw); go_simp; (try with_reducible rfl))
            try simp only [Act.put, List.setIfInBounds_toArray, List.set_cons_zero, List.set_cons_succ]
            refine wpAnyH_take (i := 22) (oi := { dst := some 105, op := Op.load 33 (Operand.tmp 17), type := 33, pos := "law.go:70", after := #[{ on := 21, ground := Ground.guard }], guard := some (21, true) }) (v := undef) rfl (by kernel_rfl) (by kernel_rfl) (by kernel_rfl) (fun _ _ _ h => h) ?hy23 (by assumption) ?rest23
            case hy23 => (exact Or.inr ⟨by rfl, rfl⟩)
            try simp only [Act.put, List.setIfInBounds_toArray, List.set_cons_zero, List.set_cons_succ]
            refine wpAnyH_take (i := 23) (oi := { dst := some 106, op := Op.call { callee := Callee.value (Operand.func 6), args := #[Operand.tmp 105], argTypes := #[33] }, type := 28, pos := "law.go:70", after := #[{ on := 22, ground := Ground.data }, { on := 21, ground := Ground.chain }, { on := 21, ground := Ground.guard }], guard := some (21, true) }) (v := undef) rfl (by kernel_rfl) (by kernel_rfl) (by kernel_rfl) (fun _ _ _ h => h) ?hy24 (by assumption) ?rest24
            case hy24 => (exact Or.inr ⟨by rfl, rfl⟩)
            try simp only [Act.put, List.setIfInBounds_toArray, List.set_cons_zero, List.set_cons_succ]
            refine wpAnyH_take (i := 24) (oi := { dst := some 107, op := Op.convert 28 9 (Operand.tmp 106), type := 9, pos := "law.go:70", after := #[{ on := 23, ground := Ground.data }, { on := 21, ground := Ground.guard }], guard := some (21, true) }) (v := undef) rfl (by kernel_rfl) (by kernel_rfl) (by kernel_rfl) (fun _ _ _ h => h) ?hy25 (by assumption) ?rest25
            case hy25 => (exact Or.inr ⟨by rfl, rfl⟩)
            try simp only [Act.put, List.setIfInBounds_toArray, List.set_cons_zero, List.set_cons_succ]
            refine wpAnyH_take (i := 25) (oi := { dst := some 108, op := Op.move (Operand.tmp 16), type := 28, pos := "law.go:70", after := #[{ on := 21, ground := Ground.guard }], guard := some (21, true) }) (v := undef) rfl (by kernel_rfl) (by kernel_rfl) (by kernel_rfl) (fun _ _ _ h => h) ?hy26 (by assumption) ?rest26
            case hy26 => (exact Or.inr ⟨by rfl, rfl⟩)
            try simp only [Act.put, List.setIfInBounds_toArray, List.set_cons_zero, List.set_cons_succ]
            refine wpAnyH_take (i := 26) (oi := { dst := some 109, op := Op.convert 28 9 (Operand.tmp 108), type := 9, pos := "law.go:70", after := #[{ on := 25, ground := Ground.data }, { on := 21, ground := Ground.guard }], guard := some (21, true) }) (v := undef) rfl (by kernel_rfl) (by kernel_rfl) (by kernel_rfl) (fun _ _ _ h => h) ?hy27 (by assumption) ?rest27
            case hy27 => (exact Or.inr ⟨by rfl, rfl⟩)
            try simp only [Act.put, List.setIfInBounds_toArray, List.set_cons_zero, List.set_cons_succ]
            refine wpAnyH_take (i := 27) (oi := { dst := some 110, op := Op.binOp BinOp.neq 9 (Operand.tmp 107) (Operand.tmp 109) 9, type := 4, pos := "law.go:70", after := #[{ on := 24, ground := Ground.data }, { on := 26, ground := Ground.data }, { on := 21, ground := Ground.guard }], guard := some (21, true) }) (v := undef) rfl (by kernel_rfl) (by kernel_rfl) (by kernel_rfl) (fun _ _ _ h => h) ?hy28 (by assumption) ?rest28
            case hy28 => (exact Or.inr ⟨by rfl, rfl⟩)
            try simp only [Act.put, List.setIfInBounds_toArray, List.set_cons_zero, List.set_cons_succ]
            refine wpAnyH_take (i := 28) (oi := { dst := some 111, op := Op.pick (Operand.tmp 104) (Operand.tmp 110) (Operand.const (Value.bool false)), type := 4, pos := "law.go:70", after := #[{ on := 21, ground := Ground.data }, { on := 27, ground := Ground.data }, { on := 19, ground := Ground.guard }], guard := some (19, false) }) (v := (.bool false)) rfl (by kernel_rfl) (by kernel_rfl) (by kernel_rfl) (fun _ _ _ h => h) ?hy29 (by assumption) ?rest29
            case hy29 => ((refine Or.inl ⟨by rfl, ?_⟩; intro W hSw; (try dsimp only at hSw); go_simp; (try simp)))
            try simp only [Act.put, List.setIfInBounds_toArray, List.set_cons_zero, List.set_cons_succ]
            refine wpAnyH_take (i := 29) (oi := { dst := some 112, op := Op.pick (Operand.tmp 102) (Operand.const (Value.bool true)) (Operand.tmp 111), type := 4, pos := "law.go:70", after := #[{ on := 19, ground := Ground.data }, { on := 28, ground := Ground.data }], guard := none }) (v := (.bool false)) rfl (by kernel_rfl) (by kernel_rfl) (by kernel_rfl) (fun _ _ _ h => h) ?hy30 (by assumption) ?rest30
            case hy30 => ((refine Or.inl ⟨by rfl, ?_⟩; intro W hSw; (try dsimp only at hSw); go_simp; (try simp)))
            try simp only [Act.put, List.setIfInBounds_toArray, List.set_cons_zero, List.set_cons_succ]
            refine wpAnyH_done (by kernel_rfl) ?_ _
            clear hHeld
            dsimp only [onlyN]
            have HFIN := Lib.hid (HBR.out.trans ((HB9.out.trans (X2.out.mono HB9.out.size)).mono HBR.out.size))
            go_wp2_with fail
            go_roundw
            case rel => exact ⟨i + 1, HLT.out, by go_num, HFIN.out⟩
            case measure => have := HLT.out; simp [intOf]; omega
          · have HDX := Lib.hid hdx
            have HDI : Hid (MsgIn d) := Lib.hid (decM_only hdx).2.2
            have HEX : Hid (encB d = lx) := Lib.hid (by unfold encB; rw [if_pos (decM_only hdx).2.1, ← (decM_only hdx).1])
            have hmd2 := hmd
            obtain ⟨tB, td, oB, od, rfl, _, _, _⟩ := hmd2
            clear hdx hcell
            have hb7 := below_new (w := w6) (.cells #[.int .i64 d.kd, .int .i64 d.fr, .int .i64 d.tt, .int .i64 d.g, .int .i64 d.nd, .int .i64 d.tr, .int .i64 d.lw, .int .i64 d.co, .int .i64 d.ti, .slice tB d.tl.length td, .slice oB d.os.length od] 33)
            have hat7 := alloc_at w6 (.cells #[.int .i64 d.kd, .int .i64 d.fr, .int .i64 d.tt, .int .i64 d.g, .int .i64 d.nd, .int .i64 d.tr, .int .i64 d.lw, .int .i64 d.co, .int .i64 d.ti, .slice tB d.tl.length td, .slice oB d.os.length od] 33)
            obtain ⟨W7, hW7⟩ : ∃ W, W = w6.alloc (.cells #[.int .i64 d.kd, .int .i64 d.fr, .int .i64 d.tt, .int .i64 d.g, .int .i64 d.nd, .int .i64 d.tr, .int .i64 d.lw, .int .i64 d.co, .int .i64 d.ti, .slice tB d.tl.length td, .slice oB d.os.length od] 33) := ⟨_, rfl⟩
            have HW7 := Lib.hid hW7
            rw [← hW7] at hb7 hat7
            have HB7 := Lib.hid (hb6.trans (hb7.mono hb6.size))
            have HA7 := Lib.hid hat7
            have HM7 := Lib.hid (hmd.below hb7)
            clear hb6 hb7 hat7 hW7
            go_wp2_with fail
            rw [← HW7.out]
            refine (HRD.out _ HB7.out).mono ?_
            rintro e w8 ⟨hb8, hc8⟩
            rcases hc8 with ⟨h, _⟩ | ⟨d2, vr, hd2, rfl, hmr⟩
            · rw [HDX.out] at h; cases h
            rw [HDX.out] at hd2
            obtain rfl := Option.some.inj hd2
            have HMR := Lib.hid hmr
            obtain ⟨tR, tr, oR, or_, rfl, _, _, _⟩ := hmr
            clear hd2
            have hb9 := below_new (w := w8) (.cells #[.int .i64 d.kd, .int .i64 d.fr, .int .i64 d.tt, .int .i64 d.g, .int .i64 d.nd, .int .i64 d.tr, .int .i64 d.lw, .int .i64 d.co, .int .i64 d.ti, .slice tR d.tl.length tr, .slice oR d.os.length or_] 26)
            have hat9 := alloc_at w8 (.cells #[.int .i64 d.kd, .int .i64 d.fr, .int .i64 d.tt, .int .i64 d.g, .int .i64 d.nd, .int .i64 d.tr, .int .i64 d.lw, .int .i64 d.co, .int .i64 d.ti, .slice tR d.tl.length tr, .slice oR d.os.length or_] 26)
            obtain ⟨W9, hW9⟩ : ∃ W, W = w8.alloc (.cells #[.int .i64 d.kd, .int .i64 d.fr, .int .i64 d.tt, .int .i64 d.g, .int .i64 d.nd, .int .i64 d.tr, .int .i64 d.lw, .int .i64 d.co, .int .i64 d.ti, .slice tR d.tl.length tr, .slice oR d.os.length or_] 26) := ⟨_, rfl⟩
            have HW9 := Lib.hid hW9
            rw [← hW9] at hb9 hat9
            have h7 := ((hb8.trans (hb9.mono hb8.size)).block _ (heap_lt HA7.out)).trans HA7.out
            obtain ⟨b17, hb17⟩ : ∃ b, w6.heap.size = b := ⟨_, rfl⟩
            obtain ⟨b19, hb19⟩ : ∃ b, w8.heap.size = b := ⟨_, rfl⟩
            have HB9 := Lib.hid (HB7.out.trans ((hb8.trans (hb9.mono hb8.size)).mono HB7.out.size))
            have hbi := HBX.out.below HB9.out
            have HM9 : Hid (∀ W, Below W9.heap.size W9 W → MsgIs W (.agg #[.int .i64 d.kd, .int .i64 d.fr, .int .i64 d.tt, .int .i64 d.g, .int .i64 d.nd, .int .i64 d.tr, .int .i64 d.lw, .int .i64 d.co, .int .i64 d.ti, .slice tB d.tl.length td, .slice oB d.os.length od]) d ∧ MsgIs W (.agg #[.int .i64 d.kd, .int .i64 d.fr, .int .i64 d.tt, .int .i64 d.g, .int .i64 d.nd, .int .i64 d.tr, .int .i64 d.lw, .int .i64 d.co, .int .i64 d.ti, .slice tR d.tl.length tr, .slice oR d.os.length or_]) d) := Lib.hid (fun W hW => ⟨HM7.out.below ((hb8.trans (hb9.mono hb8.size)).trans (hW.mono (Nat.le_trans hb8.size hb9.size))), HMR.out.below (hb9.trans (hW.mono hb9.size))⟩)
            rw [hb17] at h7
            rw [hb19] at hat9
            have HSC : Hid (∀ W, Below W9.heap.size W9 W → (W.cell? ⟨b17, 0, none⟩ = some (.int .i64 d.kd) ∧ W.cell? ⟨b17, 1, none⟩ = some (.int .i64 d.fr) ∧ W.cell? ⟨b17, 2, none⟩ = some (.int .i64 d.tt) ∧ W.cell? ⟨b17, 3, none⟩ = some (.int .i64 d.g) ∧ W.cell? ⟨b17, 4, none⟩ = some (.int .i64 d.nd) ∧ W.cell? ⟨b17, 5, none⟩ = some (.int .i64 d.tr) ∧ W.cell? ⟨b17, 6, none⟩ = some (.int .i64 d.lw) ∧ W.cell? ⟨b17, 7, none⟩ = some (.int .i64 d.co) ∧ W.cell? ⟨b17, 8, none⟩ = some (.int .i64 d.ti) ∧ W.cell? ⟨b17, 9, none⟩ = some (.slice tB d.tl.length td) ∧ W.cell? ⟨b17, 10, none⟩ = some (.slice oB d.os.length od) ∧ W.cell? ⟨b19, 0, none⟩ = some (.int .i64 d.kd) ∧ W.cell? ⟨b19, 1, none⟩ = some (.int .i64 d.fr) ∧ W.cell? ⟨b19, 2, none⟩ = some (.int .i64 d.tt) ∧ W.cell? ⟨b19, 3, none⟩ = some (.int .i64 d.g) ∧ W.cell? ⟨b19, 4, none⟩ = some (.int .i64 d.nd) ∧ W.cell? ⟨b19, 5, none⟩ = some (.int .i64 d.tr) ∧ W.cell? ⟨b19, 6, none⟩ = some (.int .i64 d.lw) ∧ W.cell? ⟨b19, 7, none⟩ = some (.int .i64 d.co) ∧ W.cell? ⟨b19, 8, none⟩ = some (.int .i64 d.ti) ∧ W.cell? ⟨b19, 9, none⟩ = some (.slice tR d.tl.length tr) ∧ W.cell? ⟨b19, 10, none⟩ = some (.slice oR d.os.length or_)) ∧ BIs W (.slice Ax xn cx) lx) := Lib.hid (fun W hW => by
              have hm := (hW.block _ (heap_lt h7)).trans h7
              have hn := (hW.block _ (heap_lt hat9)).trans hat9
              exact ⟨⟨cell_of hm 0, cell_of hm 1, cell_of hm 2, cell_of hm 3, cell_of hm 4, cell_of hm 5, cell_of hm 6, cell_of hm 7, cell_of hm 8, cell_of hm 9, cell_of hm 10, cell_of hn 0, cell_of hn 1, cell_of hn 2, cell_of hn 3, cell_of hn 4, cell_of hn 5, cell_of hn 6, cell_of hn 7, cell_of hn 8, cell_of hn 9, cell_of hn 10⟩, hbi.below hW⟩)
            have HGW := Lib.hid (fun W (hW : Below W9.heap.size W9 W) => And.intro (HGR.out.1.below (HB9.out.trans (hW.mono HB9.out.size))) (HGR.out.2.below (HB9.out.trans (hW.mono HB9.out.size))))
            have HBZ := Lib.hid (And.intro hb17 hb19)
            rw [hb17]
            clear hb8 hb9 hat9 hW9 h7 hbi
            go_wp2_with fail
            rw [← HW9.out]
            try rw [hb19]
            clear hb17 hb19
            refine wp_only ?_
            refine wp_region_held_drew (S := fun W => (W.cell? ⟨b17, 0, none⟩ = some (.int .i64 d.kd) ∧ W.cell? ⟨b17, 1, none⟩ = some (.int .i64 d.fr) ∧ W.cell? ⟨b17, 2, none⟩ = some (.int .i64 d.tt) ∧ W.cell? ⟨b17, 3, none⟩ = some (.int .i64 d.g) ∧ W.cell? ⟨b17, 4, none⟩ = some (.int .i64 d.nd) ∧ W.cell? ⟨b17, 5, none⟩ = some (.int .i64 d.tr) ∧ W.cell? ⟨b17, 6, none⟩ = some (.int .i64 d.lw) ∧ W.cell? ⟨b17, 7, none⟩ = some (.int .i64 d.co) ∧ W.cell? ⟨b17, 8, none⟩ = some (.int .i64 d.ti) ∧ W.cell? ⟨b17, 9, none⟩ = some (.slice tB d.tl.length td) ∧ W.cell? ⟨b17, 10, none⟩ = some (.slice oB d.os.length od) ∧ W.cell? ⟨b19, 0, none⟩ = some (.int .i64 d.kd) ∧ W.cell? ⟨b19, 1, none⟩ = some (.int .i64 d.fr) ∧ W.cell? ⟨b19, 2, none⟩ = some (.int .i64 d.tt) ∧ W.cell? ⟨b19, 3, none⟩ = some (.int .i64 d.g) ∧ W.cell? ⟨b19, 4, none⟩ = some (.int .i64 d.nd) ∧ W.cell? ⟨b19, 5, none⟩ = some (.int .i64 d.tr) ∧ W.cell? ⟨b19, 6, none⟩ = some (.int .i64 d.lw) ∧ W.cell? ⟨b19, 7, none⟩ = some (.int .i64 d.co) ∧ W.cell? ⟨b19, 8, none⟩ = some (.int .i64 d.ti) ∧ W.cell? ⟨b19, 9, none⟩ = some (.slice tR d.tl.length tr) ∧ W.cell? ⟨b19, 10, none⟩ = some (.slice oR d.os.length or_)) ∧ BIs W (.slice Ax xn cx) lx) (by kernel_rfl) (HSC.out _ (below_drew (Below.refl _ _))) (fun hHeld => ?_)
            refine wpAnyH_take (i := 0) (oi := { dst := some 83, op := Op.move (Operand.tmp 18), type := 22, pos := "law.go:70", after := #[], guard := none }) (v := ?vv31) rfl (by kernel_rfl) (by kernel_rfl) (by kernel_rfl) (fun _ _ _ h => h) ?hy31 (by assumption) ?rest31
            case hy31 => (refine Or.inl ⟨by rfl, ?_⟩; intro W hSw; (try dsimp only at hSw); go_simp; (try with_reducible rfl))
            try simp only [Act.put, List.setIfInBounds_toArray, List.set_cons_zero, List.set_cons_succ]
            refine wpAnyH_take (i := 1) (oi := { dst := some 84, op := Op.binOp BinOp.eql 22 (Operand.tmp 83) (Operand.const (Value.int IntKind.i64 0)) 22, type := 4, pos := "law.go:70", after := #[{ on := 0, ground := Ground.data }], guard := none }) (v := (.bool true)) rfl (by kernel_rfl) (by kernel_rfl) (by kernel_rfl) (fun _ _ _ h => h) ?hy32 (by assumption) ?rest32
            case hy32 => ((refine Or.inl ⟨by rfl, ?_⟩; intro W hSw; (try dsimp only at hSw); go_simp; (try simp)))
            try simp only [Act.put, List.setIfInBounds_toArray, List.set_cons_zero, List.set_cons_succ]
            refine wpAnyH_take (i := 2) (oi := { dst := some 85, op := Op.move (Operand.tmp 20), type := 4, pos := "law.go:70", after := #[], guard := none }) (v := ?vv33) rfl (by kernel_rfl) (by kernel_rfl) (by kernel_rfl) (fun _ _ _ h => h) ?hy33 (by assumption) ?rest33
            case hy33 => (refine Or.inl ⟨by rfl, ?_⟩; intro W hSw; (try dsimp only at hSw); go_simp; (try with_reducible rfl))
            try simp only [Act.put, List.setIfInBounds_toArray, List.set_cons_zero, List.set_cons_succ]
            refine wpAnyH_take (i := 3) (oi := { dst := some 86, op := Op.binOp BinOp.neq 4 (Operand.tmp 84) (Operand.tmp 85) 4, type := 4, pos := "law.go:70", after := #[{ on := 1, ground := Ground.data }, { on := 2, ground := Ground.data }], guard := none }) (v := (.bool false)) rfl (by kernel_rfl) (by kernel_rfl) (by kernel_rfl) (fun _ _ _ h => h) ?hy34 (by assumption) ?rest34
            case hy34 => ((refine Or.inl ⟨by rfl, ?_⟩; intro W hSw; (try dsimp only at hSw); go_simp; (try simp)))
            try simp only [Act.put, List.setIfInBounds_toArray, List.set_cons_zero, List.set_cons_succ]
            refine wpAnyH_take (i := 4) (oi := { dst := some 87, op := Op.move (Operand.tmp 86), type := 4, pos := "law.go:70", after := #[{ on := 3, ground := Ground.data }], guard := none }) (v := ?vv35) rfl (by kernel_rfl) (by kernel_rfl) (by kernel_rfl) (fun _ _ _ h => h) ?hy35 (by assumption) ?rest35
            case hy35 => (refine Or.inl ⟨by rfl, ?_⟩; intro W hSw; (try dsimp only at hSw); go_simp; (try with_reducible rfl))
            try simp only [Act.put, List.setIfInBounds_toArray, List.set_cons_zero, List.set_cons_succ]
            refine wpAnyH_take (i := 5) (oi := { dst := some 88, op := Op.move (Operand.tmp 20), type := 4, pos := "law.go:70", after := #[{ on := 4, ground := Ground.guard }], guard := some (4, false) }) (v := ?vv36) rfl (by kernel_rfl) (by kernel_rfl) (by kernel_rfl) (fun _ _ _ h => h) ?hy36 (by assumption) ?rest36
            case hy36 => (refine Or.inl ⟨by rfl, ?_⟩; intro W hSw; (try dsimp only at hSw); go_simp; (try with_reducible rfl))
            try simp only [Act.put, List.setIfInBounds_toArray, List.set_cons_zero, List.set_cons_succ]
            refine wpAnyH_take (i := 6) (oi := { dst := some 89, op := Op.unOp UnOp.not 4 (Operand.tmp 88), type := 4, pos := "law.go:70", after := #[{ on := 5, ground := Ground.data }, { on := 4, ground := Ground.guard }], guard := some (4, false) }) (v := (.bool false)) rfl (by kernel_rfl) (by kernel_rfl) (by kernel_rfl) (fun _ _ _ h => h) ?hy37 (by assumption) ?rest37
            case hy37 => ((refine Or.inl ⟨by rfl, ?_⟩; intro W hSw; (try dsimp only at hSw); go_simp; (try simp)))
            try simp only [Act.put, List.setIfInBounds_toArray, List.set_cons_zero, List.set_cons_succ]
            refine wpAnyH_take (i := 7) (oi := { dst := some 90, op := Op.move (Operand.tmp 89), type := 4, pos := "law.go:70", after := #[{ on := 6, ground := Ground.data }, { on := 4, ground := Ground.chain }, { on := 4, ground := Ground.guard }], guard := some (4, false) }) (v := ?vv38) rfl (by kernel_rfl) (by kernel_rfl) (by kernel_rfl) (fun _ _ _ h => h) ?hy38 (by assumption) ?rest38
            case hy38 => (refine Or.inl ⟨by rfl, ?_⟩; intro W hSw; (try dsimp only at hSw); go_simp; (try with_reducible rfl))
            try simp only [Act.put, List.setIfInBounds_toArray, List.set_cons_zero, List.set_cons_succ]
            refine wpAnyH_take (i := 8) (oi := { dst := some 91, op := Op.move (Operand.tmp 18), type := 22, pos := "law.go:70", after := #[{ on := 7, ground := Ground.guard }], guard := some (7, true) }) (v := undef) rfl (by kernel_rfl) (by kernel_rfl) (by kernel_rfl) (fun _ _ _ h => h) ?hy39 (by assumption) ?rest39
            case hy39 => (exact Or.inr ⟨by rfl, rfl⟩)
            try simp only [Act.put, List.setIfInBounds_toArray, List.set_cons_zero, List.set_cons_succ]
            refine wpAnyH_take (i := 9) (oi := { dst := some 92, op := Op.binOp BinOp.neq 22 (Operand.tmp 91) (Operand.const (Value.int IntKind.i64 6)) 22, type := 4, pos := "law.go:70", after := #[{ on := 8, ground := Ground.data }, { on := 7, ground := Ground.guard }], guard := some (7, true) }) (v := undef) rfl (by kernel_rfl) (by kernel_rfl) (by kernel_rfl) (fun _ _ _ h => h) ?hy40 (by assumption) ?rest40
            case hy40 => (exact Or.inr ⟨by rfl, rfl⟩)
            try simp only [Act.put, List.setIfInBounds_toArray, List.set_cons_zero, List.set_cons_succ]
            refine wpAnyH_take (i := 10) (oi := { dst := some 93, op := Op.pick (Operand.tmp 90) (Operand.tmp 92) (Operand.const (Value.bool false)), type := 4, pos := "law.go:70", after := #[{ on := 7, ground := Ground.data }, { on := 9, ground := Ground.data }, { on := 4, ground := Ground.guard }], guard := some (4, false) }) (v := (.bool false)) rfl (by kernel_rfl) (by kernel_rfl) (by kernel_rfl) (fun _ _ _ h => h) ?hy41 (by assumption) ?rest41
            case hy41 => ((refine Or.inl ⟨by rfl, ?_⟩; intro W hSw; (try dsimp only at hSw); go_simp; (try simp)))
            try simp only [Act.put, List.setIfInBounds_toArray, List.set_cons_zero, List.set_cons_succ]
            refine wpAnyH_take (i := 11) (oi := { dst := some 94, op := Op.pick (Operand.tmp 87) (Operand.const (Value.bool true)) (Operand.tmp 93), type := 4, pos := "law.go:70", after := #[{ on := 4, ground := Ground.data }, { on := 10, ground := Ground.data }], guard := none }) (v := (.bool false)) rfl (by kernel_rfl) (by kernel_rfl) (by kernel_rfl) (fun _ _ _ h => h) ?hy42 (by assumption) ?rest42
            case hy42 => ((refine Or.inl ⟨by rfl, ?_⟩; intro W hSw; (try dsimp only at hSw); go_simp; (try simp)))
            try simp only [Act.put, List.setIfInBounds_toArray, List.set_cons_zero, List.set_cons_succ]
            refine wpAnyH_take (i := 12) (oi := { dst := some 95, op := Op.move (Operand.tmp 94), type := 4, pos := "law.go:70", after := #[{ on := 11, ground := Ground.data }, { on := 7, ground := Ground.chain }], guard := none }) (v := ?vv43) rfl (by kernel_rfl) (by kernel_rfl) (by kernel_rfl) (fun _ _ _ h => h) ?hy43 (by assumption) ?rest43
            case hy43 => (refine Or.inl ⟨by rfl, ?_⟩; intro W hSw; (try dsimp only at hSw); go_simp; (try with_reducible rfl))
            try simp only [Act.put, List.setIfInBounds_toArray, List.set_cons_zero, List.set_cons_succ]
            refine wpAnyH_take (i := 13) (oi := { dst := some 96, op := Op.load 33 (Operand.tmp 17), type := 33, pos := "law.go:70", after := #[{ on := 12, ground := Ground.guard }], guard := some (12, false) }) (v := ?vv44) rfl (by kernel_rfl) (by kernel_rfl) (by kernel_rfl) (fun _ _ _ h => h) ?hy44 (by assumption) ?rest44
            case hy44 => (refine Or.inl ⟨by rfl, ?_⟩; intro W hSw; (try dsimp only at hSw); go_simp; (try with_reducible rfl))
            try simp only [Act.put, List.setIfInBounds_toArray, List.set_cons_zero, List.set_cons_succ]
            refine wpAnyH_take (i := 15) (oi := { dst := some 98, op := Op.load 26 (Operand.tmp 19), type := 26, pos := "law.go:70", after := #[{ on := 12, ground := Ground.guard }], guard := some (12, false) }) (v := ?vv45) rfl (by kernel_rfl) (by kernel_rfl) (by kernel_rfl) (fun _ _ _ h => h) ?hy45 (by assumption) ?rest45
            case hy45 => (refine Or.inl ⟨by rfl, ?_⟩; intro W hSw; (try dsimp only at hSw); go_simp; (try with_reducible rfl))
            try simp only [Act.put, List.setIfInBounds_toArray, List.set_cons_zero, List.set_cons_succ]
            refine wpAnyH_ready (rs := [14]) (by kernel_rfl) (by simp) ?_
            refine AllReadyH.cons (o := { dst := some 97, op := Op.call { callee := Callee.value (Operand.func 14), args := #[Operand.tmp 96], argTypes := #[33] }, type := 26, pos := "law.go:70", after := #[{ on := 13, ground := Ground.data }, { on := 12, ground := Ground.chain }, { on := 12, ground := Ground.guard }], guard := some (12, false) }) rfl (fun K hK => ?step46) ?more46
            case more46 => exact AllReadyH.nil
            ((go_simp; go_at_call 14; refine (plain_m (HM9.out _ (below_drew (Below.refl _ W9))).1).mono ?_; rintro e x1 ⟨rfl, hbn⟩; have X1 := Lib.hid (below_of_drew hbn); clear hbn; go_wp2_with fail))
            refine hK.out _ _ ?hS46 (fun hHeld => ?rr46)
            case hS46 => (exact HSC.out _ X1.out)
            clear hK K
            try simp only [Act.put, List.setIfInBounds_toArray, List.set_cons_zero, List.set_cons_succ]
            have HSM := Lib.hid (rsame_any (HM9.out _ X1.out).1 (HM9.out _ X1.out).2)
            rw [decide_eq_true rfl] at HSM
            refine wpAnyH_ready (rs := [16]) (by kernel_rfl) (by simp) ?_
            refine AllReadyH.cons (o := { dst := some 99, op := Op.call { callee := Callee.value (Operand.func 13), args := #[Operand.tmp 97, Operand.tmp 98], argTypes := #[26, 26] }, type := 4, pos := "law.go:70", after := #[{ on := 14, ground := Ground.data }, { on := 15, ground := Ground.data }, { on := 14, ground := Ground.chain }, { on := 12, ground := Ground.guard }], guard := some (12, false) }) rfl (fun K hK => ?step47) ?more47
            case more47 => exact AllReadyH.nil
            ((go_simp; go_at_call 13; refine (HSM.out).mono ?_; rintro e x2 ⟨rfl, hbn⟩; have X2 := Lib.hid (X1.out.trans (hbn.mono X1.out.size)); clear hbn; go_wp2_with fail))
            refine hK.out _ _ ?hS47 (fun hHeld => ?rr47)
            case hS47 => (exact HSC.out _ X2.out)
            clear hK K
            try simp only [Act.put, List.setIfInBounds_toArray, List.set_cons_zero, List.set_cons_succ]
            refine wpAnyH_take (i := 17) (oi := { dst := some 100, op := Op.unOp UnOp.not 4 (Operand.tmp 99), type := 4, pos := "law.go:70", after := #[{ on := 16, ground := Ground.data }, { on := 12, ground := Ground.guard }], guard := some (12, false) }) (v := (.bool false)) rfl (by kernel_rfl) (by kernel_rfl) (by kernel_rfl) (fun _ _ _ h => h) ?hy48 (by assumption) ?rest48
            case hy48 => ((refine Or.inl ⟨by rfl, ?_⟩; intro W hSw; (try dsimp only at hSw); go_simp; (try simp)))
            try simp only [Act.put, List.setIfInBounds_toArray, List.set_cons_zero, List.set_cons_succ]
            refine wpAnyH_take (i := 18) (oi := { dst := some 101, op := Op.pick (Operand.tmp 95) (Operand.const (Value.bool true)) (Operand.tmp 100), type := 4, pos := "law.go:70", after := #[{ on := 12, ground := Ground.data }, { on := 17, ground := Ground.data }], guard := none }) (v := (.bool false)) rfl (by kernel_rfl) (by kernel_rfl) (by kernel_rfl) (fun _ _ _ h => h) ?hy49 (by assumption) ?rest49
            case hy49 => ((refine Or.inl ⟨by rfl, ?_⟩; intro W hSw; (try dsimp only at hSw); go_simp; (try simp)))
            try simp only [Act.put, List.setIfInBounds_toArray, List.set_cons_zero, List.set_cons_succ]
            refine wpAnyH_take (i := 19) (oi := { dst := some 102, op := Op.move (Operand.tmp 101), type := 4, pos := "law.go:70", after := #[{ on := 18, ground := Ground.data }, { on := 16, ground := Ground.chain }], guard := none }) (v := ?vv50) rfl (by kernel_rfl) (by kernel_rfl) (by kernel_rfl) (fun _ _ _ h => h) ?hy50 (by assumption) ?rest50
            case hy50 => (refine Or.inl ⟨by rfl, ?_⟩; intro W hSw; (try dsimp only at hSw); go_simp; (try with_reducible rfl))
            try simp only [Act.put, List.setIfInBounds_toArray, List.set_cons_zero, List.set_cons_succ]
            refine wpAnyH_take (i := 20) (oi := { dst := some 103, op := Op.move (Operand.tmp 20), type := 4, pos := "law.go:70", after := #[{ on := 19, ground := Ground.guard }], guard := some (19, false) }) (v := ?vv51) rfl (by kernel_rfl) (by kernel_rfl) (by kernel_rfl) (fun _ _ _ h => h) ?hy51 (by assumption) ?rest51
            case hy51 => (refine Or.inl ⟨by rfl, ?_⟩; intro W hSw; (try dsimp only at hSw); go_simp; (try with_reducible rfl))
            try simp only [Act.put, List.setIfInBounds_toArray, List.set_cons_zero, List.set_cons_succ]
            refine wpAnyH_take (i := 21) (oi := { dst := some 104, op := Op.move (Operand.tmp 103), type := 4, pos := "law.go:70", after := #[{ on := 20, ground := Ground.data }, { on := 19, ground := Ground.chain }, { on := 19, ground := Ground.guard }], guard := some (19, false) }) (v := ?vv52) rfl (by kernel_rfl) (by kernel_rfl) (by kernel_rfl) (fun _ _ _ h => h) ?hy52 (by assumption) ?rest52
            case hy52 => (refine Or.inl ⟨by rfl, ?_⟩; intro W hSw; (try dsimp only at hSw); go_simp; (try with_reducible rfl))
            try simp only [Act.put, List.setIfInBounds_toArray, List.set_cons_zero, List.set_cons_succ]
            refine wpAnyH_take (i := 22) (oi := { dst := some 105, op := Op.load 33 (Operand.tmp 17), type := 33, pos := "law.go:70", after := #[{ on := 21, ground := Ground.guard }], guard := some (21, true) }) (v := ?vv53) rfl (by kernel_rfl) (by kernel_rfl) (by kernel_rfl) (fun _ _ _ h => h) ?hy53 (by assumption) ?rest53
            case hy53 => (refine Or.inl ⟨by rfl, ?_⟩; intro W hSw; (try dsimp only at hSw); go_simp; (try with_reducible rfl))
            try simp only [Act.put, List.setIfInBounds_toArray, List.set_cons_zero, List.set_cons_succ]
            refine wpAnyH_take (i := 25) (oi := { dst := some 108, op := Op.move (Operand.tmp 16), type := 28, pos := "law.go:70", after := #[{ on := 21, ground := Ground.guard }], guard := some (21, true) }) (v := ?vv54) rfl (by kernel_rfl) (by kernel_rfl) (by kernel_rfl) (fun _ _ _ h => h) ?hy54 (by assumption) ?rest54
            case hy54 => (refine Or.inl ⟨by rfl, ?_⟩; intro W hSw; (try dsimp only at hSw); go_simp; (try with_reducible rfl))
            try simp only [Act.put, List.setIfInBounds_toArray, List.set_cons_zero, List.set_cons_succ]
            refine wpAnyH_take (i := 26) (oi := { dst := some 109, op := Op.convert 28 9 (Operand.tmp 108), type := 9, pos := "law.go:70", after := #[{ on := 25, ground := Ground.data }, { on := 21, ground := Ground.guard }], guard := some (21, true) }) (v := (.string ⟨lx.toArray⟩)) rfl (by kernel_rfl) (by kernel_rfl) (by kernel_rfl) (fun _ _ _ h => h) ?hy55 (by assumption) ?rest55
            case hy55 => ((refine Or.inl ⟨by rfl, ?_⟩; intro W hSw; have hcv := bis_string hSw.2; clear hSw; go_simp))
            try simp only [Act.put, List.setIfInBounds_toArray, List.set_cons_zero, List.set_cons_succ]
            have HEN := Lib.hid (Enc_any (HGW.out _ X2.out).1 (HGW.out _ X2.out).2 (HM9.out _ X2.out).1 HDI.out)
            rw [HEX.out] at HEN
            refine wpAnyH_ready (rs := [23]) (by kernel_rfl) (by simp) ?_
            refine AllReadyH.cons (o := { dst := some 106, op := Op.call { callee := Callee.value (Operand.func 6), args := #[Operand.tmp 105], argTypes := #[33] }, type := 28, pos := "law.go:70", after := #[{ on := 22, ground := Ground.data }, { on := 21, ground := Ground.chain }, { on := 21, ground := Ground.guard }], guard := some (21, true) }) rfl (fun K hK => ?step56) ?more56
            case more56 => exact AllReadyH.nil
            ((go_simp; go_at_call 6; refine (HEN.out).mono ?_; rintro e x3 ⟨v3, rfl, ho, hbn⟩; have X3 := Lib.hid (X2.out.trans (hbn.mono X2.out.size)); obtain ⟨Ae, ce, rfl⟩ := ho.len; have HCV := Lib.hid (bis_string ho.bis); clear hbn ho; go_wp2_with fail))
            refine hK.out _ _ ?hS56 (fun hHeld => ?rr56)
            case hS56 => (exact HSC.out _ X3.out)
            clear hK K
            try simp only [Act.put, List.setIfInBounds_toArray, List.set_cons_zero, List.set_cons_succ]
            refine wpAnyH_ready (rs := [24]) (by kernel_rfl) (by simp) ?_
            have hcv := HCV.out
            refine AllReadyH.cons (o := { dst := some 107, op := Op.convert 28 9 (Operand.tmp 106), type := 9, pos := "law.go:70", after := #[{ on := 23, ground := Ground.data }, { on := 21, ground := Ground.guard }], guard := some (21, true) }) rfl (fun K hK => ?step57) ?more57
            case more57 => exact AllReadyH.nil
            ((go_simp))
            refine hK.out _ _ ?hS57 (fun hHeld => ?rr57)
            case hS57 => (exact HSC.out _ X3.out)
            clear hK K
            try simp only [Act.put, List.setIfInBounds_toArray, List.set_cons_zero, List.set_cons_succ]
            clear hcv
            refine wpAnyH_take (i := 27) (oi := { dst := some 110, op := Op.binOp BinOp.neq 9 (Operand.tmp 107) (Operand.tmp 109) 9, type := 4, pos := "law.go:70", after := #[{ on := 24, ground := Ground.data }, { on := 26, ground := Ground.data }, { on := 21, ground := Ground.guard }], guard := some (21, true) }) (v := (.bool false)) rfl (by kernel_rfl) (by kernel_rfl) (by kernel_rfl) (fun _ _ _ h => h) ?hy58 (by assumption) ?rest58
            case hy58 => ((refine Or.inl ⟨by rfl, ?_⟩; intro W hSw; (try dsimp only at hSw); go_simp; (try simp)))
            try simp only [Act.put, List.setIfInBounds_toArray, List.set_cons_zero, List.set_cons_succ]
            refine wpAnyH_take (i := 28) (oi := { dst := some 111, op := Op.pick (Operand.tmp 104) (Operand.tmp 110) (Operand.const (Value.bool false)), type := 4, pos := "law.go:70", after := #[{ on := 21, ground := Ground.data }, { on := 27, ground := Ground.data }, { on := 19, ground := Ground.guard }], guard := some (19, false) }) (v := (.bool false)) rfl (by kernel_rfl) (by kernel_rfl) (by kernel_rfl) (fun _ _ _ h => h) ?hy59 (by assumption) ?rest59
            case hy59 => ((refine Or.inl ⟨by rfl, ?_⟩; intro W hSw; (try dsimp only at hSw); go_simp; (try simp)))
            try simp only [Act.put, List.setIfInBounds_toArray, List.set_cons_zero, List.set_cons_succ]
            refine wpAnyH_take (i := 29) (oi := { dst := some 112, op := Op.pick (Operand.tmp 102) (Operand.const (Value.bool true)) (Operand.tmp 111), type := 4, pos := "law.go:70", after := #[{ on := 19, ground := Ground.data }, { on := 28, ground := Ground.data }], guard := none }) (v := (.bool false)) rfl (by kernel_rfl) (by kernel_rfl) (by kernel_rfl) (fun _ _ _ h => h) ?hy60 (by assumption) ?rest60
            case hy60 => ((refine Or.inl ⟨by rfl, ?_⟩; intro W hSw; (try dsimp only at hSw); go_simp; (try simp)))
            try simp only [Act.put, List.setIfInBounds_toArray, List.set_cons_zero, List.set_cons_succ]
            refine wpAnyH_done (by kernel_rfl) ?_ _
            clear hHeld
            dsimp only [onlyN]
            have HFIN := Lib.hid (HBR.out.trans ((HB9.out.trans (X3.out.mono HB9.out.size)).mono HBR.out.size))
            go_wp2_with fail
            go_roundw
            case rel => exact ⟨i + 1, HLT.out, by go_num, HFIN.out⟩
            case measure => have := HLT.out; simp [intOf]; omega
        · obtain rfl : i = L := by omega
          have hbw := HBW.out.trans (hbr.mono HBW.out.size)
          have HWR := Lib.hid hbw
          have h3r := HBC.out.trans (hbr.mono HBC.out.size)
          have HAW := Lib.hid (fun W (hW : Below wr.heap.size wr W) => awake_m (HG.out.1.below (hbw.trans (hW.mono hbw.size))) (HG.out.2.below (hbw.trans (hW.mono hbw.size))))
          have HGR := Lib.hid (And.intro (HG.out.1.below hbw) (HG.out.2.below hbw))
          have HO3r := Lib.hid (HO3.out.below h3r)
          clear hbw h3r hbr hlt hi
          rcases HEC.out with hE0 | ⟨B, hEB, hB0, hB1⟩
          · have hNE : ¬ (0 : Int) < (NE : Int) := by have := HNE.out; rw [hE0] at this; simp at this; omega
            clear hE0
            go_wp2_with fail
            refine (HAW.out _ (Below.refl _ _)).mono ?_
            rintro e w6 ⟨rfl, hb6⟩
            have HB6 := Lib.hid (HWR.out.trans (hb6.mono HWR.out.size))
            clear hb6
            go_wp2_with fail
            go_ret
            exact ⟨rfl, HB6.out⟩
          · have hNk : NE = B.length + 7 := by rw [← HNE.out, hEB, frameB_len]
            obtain ⟨g, rfl, hoc⟩ : ∃ g, A3 = some ⟨g, 0, none⟩ ∧ OwnC wr w2.heap.size g c3 (frameB B) := by
              have h := HO3r.out
              rw [HNE.out] at h
              rcases h with ⟨_, e⟩ | ⟨g, c, e, h⟩
              · exfalso; have := HNE.out; rw [e] at this; simp at this; omega
              · injection e with e1 e2 e3
                subst e1 e3
                exact ⟨g, rfl, by rw [← hEB]; exact h⟩
            have HC := Lib.hid hoc
            have HB01 := Lib.hid (And.intro hNk hB1)
            have hNE : (0 : Int) < (NE : Int) := by omega
            have hNE2 : (NE : Int) ≤ 1007 := by omega
            obtain ⟨m2, hm2, hmm2⟩ := tmod_cases bit (8 * NE) (by omega)
            rw [show ((8 * NE : Nat) : Int) = 8 * (NE : Int) from by omega] at hmm2
            have l1 : ((8 * (NE : Int)) == 0) = false := by rw [beq_eq_false_iff_ne]; omega
            have l2q : ¬ (8 * (NE : Int)) = 0 := by omega
            have HM2 := Lib.hid hm2
            have hmI : (m2 : Int) ≤ 20000 := by omega
            obtain ⟨y, hy⟩ : ∃ y, bit.tmod (8 * (NE : Int)) = y := ⟨_, rfl⟩
            rw [hy] at hmm2
            clear hm2 hEB hB0 hB1 hNk hoc
            go_upto_if 123 with fail
            go_cut [21] from 114 to 125 (fun s2 wx => s2 = .int .i64 (m2 : Int) ∧ wr = wx)
            case first =>
              rcases hmm2 with h9 | ⟨h0, h9⟩
              · have q1 : ¬ y < 0 := by omega
                clear hy
                subst h9
                go_wp2_with fail
                go_meet
                exact ⟨rfl, rfl⟩
              · have q1 : y < 0 := by omega
                have q2 : IntKind.i64.wrap (-y) = (m2 : Int) := by rw [h9, Int.neg_neg]; exact IntWalk.i64_in _ (by omega)
                clear h9 hy
                go_wp2_with fail
                go_meet
                exact ⟨rfl, rfl⟩
            case rest =>
              obtain ⟨rfl, rfl⟩ := hcut
              clear hmm2 hy l1 l2q
              have hk : m2 / 8 < (frameB B).length := by rw [frameB_len]; have := HM2.out; have := HB01.out.1; omega
              have hcell := HC.out.holds (m2 / 8) (frameB B)[m2 / 8] (List.getElem?_eq_getElem hk)
              have hfz := (HC.out.there (m2 / 8) (Nat.lt_of_lt_of_le hk HC.out.le)).2
              have hm' : (m2 : Int) < 8 * (NE : Int) := by have := HM2.out; omega
              have hm8 : m2 / 8 < NE := by have := HM2.out; omega
              obtain ⟨yb, hfl, hxy⟩ := flip (frameB B)[m2 / 8] (m2 % 8) (by omega)
              have hset := HC.out.set hk yb
              have hdn : decM ((frameB B).set (m2 / 8) yb) = none := decM_no (by
                have := set_one (l := B) (by have := HB01.out.2; omega) hk hxy
                unfold wholeP
                exact decide_eq_false (fun hc => this hc.2))
              have hB2 := (Below.refl wr.heap.size wr)
              have HB2w : Hid (Below w.heap.size w (wr.setCell ⟨g, m2 / 8, none⟩ (.int .u8 (yb.toNat : Int)))) := Lib.hid (HWR.out.setCell (p := ⟨g, m2 / 8, none⟩) (Nat.le_trans HB2.out.size HC.out.new) (.int .u8 (yb.toNat : Int)))
              have hdec := Decode_any (HG.out.1.below HB2w.out) (HG.out.2.below HB2w.out) (OwnBy.bis (.inr ⟨g, c3, rfl, hset⟩))
              rw [hdn, List.length_set, frameB_len, ← HB01.out.1] at hdec
              have HN := Lib.hid hdec
              generalize hxx : (frameB B)[m2 / 8] = x at *
              have hx8 : (x.toNat : Int) < 256 := by have := UInt8.toNat_lt x; omega
              clear hset hdec hxy hdn hB2 hk hxx
              go_wp2_with fail
              refine (HN.out).mono ?_
              rintro e w6 ⟨hb6, ⟨_, rfl⟩ | ⟨d, vd, hno, _, _⟩⟩
              case inr => cases hno
              have hb7 := below_new (w := w6) (.cells #[.int .i64 0, .int .i64 0, .int .i64 0, .int .i64 0, .int .i64 0, .int .i64 0, .int .i64 0, .int .i64 0, .int .i64 0, .slice none 0 0, .slice none 0 0] 33)
              have HB7 := Lib.hid (HB2w.out.trans ((hb6.trans (hb7.mono hb6.size)).mono HB2w.out.size))
              have HAW7 := Lib.hid (awake_m (HG.out.1.below HB7.out) (HG.out.2.below HB7.out))
              clear hb6 hb7 hcell hfz hm' hm8 hfl hx8
              go_wp2_with fail
              refine (HAW7.out).mono ?_
              rintro e w8 ⟨rfl, hb8⟩
              have HB8 := Lib.hid (HB7.out.trans (hb8.mono HB7.out.size))
              clear hb8
              go_wp2_with fail
              go_ret
              exact ⟨rfl, HB8.out⟩
end Go.Proofs.YtfaaeacgmlklhaaGreatDoor
