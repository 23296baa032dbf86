/- The journal: frames of records, copies of records. The journal in memory. The journal: records are put behind the log, in memory. The journal: save. -/
import Derived.Test.YtnegnokielmgkaaGreatDoorZJouB
import Derived.Test.YtnegnokielmgkaaGreatDoorZJouD
import Derived.Test.YtnegnokielmgkaaGreatDoorZCrcF
import Derived.Test.YtnegnokielmgkaaGreatDoorZCrcE
import Derived.Test.YtnegnokielmgkaaGreatDoorZTapE
import Derived.Deep.RegionLaw
set_option linter.unusedSimpArgs false
set_option linter.unusedVariables false
set_option linter.unnecessarySimpa false
namespace Go.Proofs.YtnegnokielmgkaaGreatDoor
open Go.RowKit

theorem made_vals (n j : Nat) (hj : j < n) : (madeCells (Value.cells (.slice none 0 0)) n)[j]? = some (.slice none 0 0) := by
  unfold madeCells
  simp [Value.cells, hj, Nat.mod_one]
theorem wpList_make_vals (w : World) {ops : Array Oper} {rest : List Oper} {o : Oper} {a : Act} {Q : Exit → Act → World → Prop} (hg : o.guard = none) (l c : Operand) (hop : o.op = Op.makeSlice 42 l c)
    (base n m : Nat) (L C : Int) (hl : a.eval l = .int .i64 L) (hc : a.eval c = .int .i64 C) (hL : L = (n : Int)) (hC : C = (m : Int)) (hnm : n ≤ m) (hm : m ≤ 1000000) (hb : base ≤ w.heap.size)
    (hK : ∀ w', OwnS w' base (.slice (some ⟨w.heap.size, 0, none⟩) n m) (List.replicate n (.slice none 0 0)) → Below w.heap.size w w' → wpList Tryz.prog ops Q rest (a.put o.dst (.slice (some ⟨w.heap.size, 0, none⟩) n m)) w') :
    wpList Tryz.prog ops Q (o :: rest) a w := by
  refine wpList_plain hg fun K hK' => ?_
  obtain ⟨i0, hi, hz0, hz1, hz2⟩ := info_parts info22v
  have hrun := run_make (P := Tryz.prog) w 42 32 i0 _ Tryz.underlying42 hi hz0 .i64 .i64 (n : Int) (m : Int) (by omega) (by omega) (by rw [hz2]; omega) (by omega)
  subst hL
  subst hC
  unfold Oper.wp
  rw [hz1, Int.toNat_natCast, Int.toNat_natCast, Nat.mul_one] at hrun
  simp [execOp, hop, hl, hc, hrun, Result.andThen]
  refine hK' _ _ (hK _ ?_ ((Below.refl _ _).alloc (Nat.le_refl _) _))
  have hblk := heap_alloc_new w (.cells (madeCells (Value.cells (.slice none 0 0)) m) 32)
  refine .inr ⟨w.heap.size, m, by rw [List.length_replicate], hb, by show w.heap.size < (w.heap.push _).size; rw [Array.size_push]; omega, by rw [List.length_replicate]; exact hnm, by unfold maxLen; omega, fun j b hj => ?_, fun j hj => ⟨?_, free0 hblk j⟩⟩
  · rw [List.getElem?_replicate] at hj
    split at hj
    · obtain rfl := Option.some.inj hj
      rw [cell_of_row _ _ _ _ _ _ hblk, made_vals m j (by omega)]
    · cases hj
  · rw [cell_of_row _ _ _ _ _ _ hblk, made_vals m j hj]; rfl
theorem OwnBy.bf {w : World} {base : Nat} {v : Value} {l : List UInt8} (h : OwnBy w base v l) : BF w (fun k => base ≤ k) v l := by
  refine ⟨h.bis, fun a n c e => ?_⟩
  rcases h with ⟨rfl, _⟩ | ⟨g, c', rfl, hC⟩
  · cases e
  · injection e with e _ _
    injection e with e
    subst e
    exact ⟨hC.new, hC.lt⟩
/-- Values whose bytes lie from a place on, and not in the row's own block. -/
def offRow (base : Nat) (v : Value) : Nat → Prop := fun b => base ≤ b ∧ v.ownBlock ≠ some b
theorem BFs.row {w w' : World} {base : Nat} {v v' : Value} {xs : List Value} {ls : List (List UInt8)} (h : BFs w (offRow base v) xs ls) (hg : w.grownBy w' v.ownBlock) (hv : v'.ownBlock = v.ownBlock ∨ v'.ownBlock = some w.heap.size) : BFs w' (offRow base v') xs ls := by
  have h1 : BFs w (fun b => offRow base v b ∧ offRow base v' b) xs ls := h.mono fun k hk hf => ⟨hf, hf.1, by
    rcases hv with e | e
    · rw [e]; exact hf.2
    · rw [e]; intro e2; injection e2 with e2; omega⟩
  exact (h1.grown hg (fun k e hf => hf.1.2 e)).mono fun k _ hf => hf.2
def framesB (k : UInt8) (ls : List (List UInt8)) : List (List UInt8) := ls.map fun l => frameB (k :: l)
theorem framesB_snoc (k : UInt8) (ls : List (List UInt8)) (l : List UInt8) : framesB k (ls ++ [l]) = framesB k ls ++ [frameB (k :: l)] := by simp [framesB]
def WrapP (w : World) (k : UInt8) (ls : List (List UInt8)) (e : Ending) (w' : World) : Prop :=
  Below w.heap.size w w' ∧ (((∃ l ∈ ls, 16383 < l.length) ∧ ∃ v, e = .returned (.tuple #[.slice none 0 0, .int .i64 0, v]) ∧ ErrP 7 w' v w') ∨
    ((∀ l ∈ ls, l.length ≤ 16383) ∧ ∃ v xs, e = .returned (.tuple #[v, .int .i64 ((framesB k ls).flatten.length : Nat), .nilIface]) ∧ OwnS w' w.heap.size v xs ∧ BFs w' (offRow w.heap.size v) xs (framesB k ls)))
set_option maxRecDepth 100000 in
set_option maxHeartbeats 4000000 in
theorem wrapK_any {w : World} {v : Value} {ls : List (List UInt8)} (k : UInt8) (hM : Mov w) (h : PIs w v ls) (hl : ls.length ≤ 1000) : Calls Tryz.prog 96 #[.int .u8 (k.toNat : Int), v] w (WrapP w k ls) := by
  have HM := Lib.hid hM
  have HP := Lib.hid h
  obtain ⟨A, cap, rfl, h1, h2, h3⟩ := h
  unfold maxLen at h2
  clear h3 hM
  have HL := Lib.hid hl
  have hl2 : ls.length ≤ 1000000 := by omega
  go_enter Tryz.func96, Tryz.ntmps96
  have hlw : (ls.length : Int) ≤ 1000000 := by omega
  go_wp2_with (at_make; refine wpList_make_vals _ rfl _ _ rfl w.heap.size 0 ls.length _ _ rfl rfl ?_ ?_ ?_ ?_ ?_ ?_)
  · rfl
  · first | rfl | simp
  · omega
  · omega
  · exact Nat.le_refl _
  intro w1 hown hb
  have HO1 := Lib.hid hown
  have HB1 := Lib.hid hb
  clear hown hb
  go_wp2_with fail
  go_loopw [7, 8, 17] (fun f z i wr => ∃ (j : Nat) (xs : List Value), j ≤ ls.length ∧ i = .int .i64 j ∧ z = .int .i64 ((framesB k (ls.take j)).flatten.length : Nat) ∧ OwnS wr w.heap.size f xs ∧ BFs wr (offRow w.heap.size f) xs (framesB k (ls.take j)) ∧ (∀ l ∈ ls.take j, l.length ≤ 16383) ∧ Below w.heap.size w wr) (fun _ _ i _ => ls.length - (intOf i).toNat)
  case atStart => exact ⟨0, [], by omega, rfl, rfl, HO1.out, BFs.nil _ _, (fun l hl => by simp at hl), HB1.out⟩
  case round =>
    obtain ⟨j, xs, hj, rfl, rfl, hown, hbf, hall, hb⟩ := hrel
    have HOW := Lib.hid hown
    have HBF := Lib.hid hbf
    have HALL := Lib.hid hall
    have HB := Lib.hid hb
    clear hown hbf hall hb
    by_cases hlt : j < ls.length
    · have hlj : ls[j]? = some ls[j] := List.getElem?_eq_getElem hlt
      have HLJ := Lib.hid hlj
      obtain ⟨A', c', e', _, _, h3'⟩ := HP.out.below HB.out
      injection e' with e' e2 e3
      subst e'
      obtain ⟨a, x, rfl, hab, hc, hbx⟩ := h3' j _ hlj
      have HMEM : Hid (ls[j] ∈ ls) := List.getElem_mem hlt
      generalize ls[j] = l at *
      have HBX := Lib.hid hbx
      obtain ⟨Ax, cx, rfl, g1, g2, _⟩ := hbx
      have HLT := Lib.hid hlt
      have l1 : (j : Int) < (ls.length : Int) := by omega
      have hfl : Hid ((framesB k (ls.take j)).flatten.length ≤ 16391 * 1000) := by
        have h2 : ∀ (ms : List (List UInt8)), (∀ l ∈ ms, l.length ≤ 16383) → (framesB k ms).flatten.length ≤ 16391 * ms.length := by
          intro ms
          induction ms with
          | nil => intro _; simp [framesB]
          | cons m ms ih =>
            intro hm
            have := ih (fun l hl => hm l (List.mem_cons_of_mem _ hl))
            have hm0 := hm m (List.mem_cons_self ..)
            unfold framesB at *
            rw [List.map_cons, List.flatten_cons, List.length_append, frameB_len, List.length_cons, List.length_cons]
            omega
        have := h2 _ HALL.out
        rw [List.length_take] at this
        have := HL.out
        show _ ≤ _
        omega
      clear hlj h3' e2 e3 hj
      by_cases hlong : 16383 < l.length
      · have q1 : (16383 : Int) < (l.length : Int) := by omega
        have HN := Lib.hid (fun w => new_num 7 (by decide) w)
        have HBD := Lib.hid (fun w => bound_some 16383 (l.length : Int) 126 (.agg #[.int .i64 7]) w)
        have HAT := Lib.hid (fun b w => at_some (j : Int) 158 (.pointer (some ⟨b, 0, none⟩)) w)
        have HLO := Lib.hid hlong
        clear hlong
        go_wp2_with fail
        refine (HN.out _).mono ?_
        rintro e w2 ⟨rfl, rfl⟩
        go_wp2_with fail
        refine (HBD.out _).mono ?_
        rintro e w3 ⟨rfl, h3⟩
        subst h3
        go_wp2_with fail
        refine (HAT.out _ _).mono ?_
        rintro e w4 ⟨rfl, h4⟩
        have hb3 := below_new (w := wr) (.cells #[.iface 126 (.agg #[.int .i64 7]), .int .i64 16383, .int .i64 (l.length : Int)] 160)
        have hat3 := alloc_at wr (.cells #[.iface 126 (.agg #[.int .i64 7]), .int .i64 16383, .int .i64 (l.length : Int)] 160)
        have hsz3 : (wr.alloc (.cells #[.iface 126 (.agg #[.int .i64 7]), .int .i64 16383, .int .i64 (l.length : Int)] 160)).heap.size = wr.heap.size + 1 := asz _ _
        generalize (wr.alloc (.cells #[.iface 126 (.agg #[.int .i64 7]), .int .i64 16383, .int .i64 (l.length : Int)] 160)) = w3 at *
        have hb4 := below_new (w := w3) (.cells #[.iface 158 (.pointer (some ⟨wr.heap.size, 0, none⟩)), .int .i64 (j : Int)] 156)
        have hat4 := alloc_at w3 (.cells #[.iface 158 (.pointer (some ⟨wr.heap.size, 0, none⟩)), .int .i64 (j : Int)] 156)
        rw [h4] at hb4 hat4
        have HBB := Lib.hid ((HB.out.trans (hb3.mono HB.out.size)).trans (hb4.mono (HB.out.trans (hb3.mono HB.out.size)).size))
        have hat3' := (hb4.block wr.heap.size (by omega)).trans hat3
        have HERR : Hid (ErrIs w4 [.plc (j : Int), .bnd 16383 (l.length : Int), .num 7] (.iface 154 (.pointer (some ⟨w3.heap.size, 0, none⟩)))) :=
          ⟨by simp, _, _, rfl, hat4, by simp, _, _, rfl, hat3', rfl, rfl⟩
        clear hb3 hat3 hat3' hb4 hat4 h4 hsz3
        go_wp2_with fail
        go_ret3
        exact ⟨HBB.out, .inl ⟨⟨l, HMEM.out, HLO.out⟩, _, rfl, ErrP.of _ HERR.out (Below.refl _ _) rfl (by simp) (by decide) (NumOk.cons rfl (NumOk.cons rfl (numOk_one (by decide)))) (by simp)⟩⟩
      · have q1 : ¬ (16383 : Int) < (l.length : Int) := by omega
        have hnl : l.length ≤ 16383 := by omega
        have HNL := Lib.hid hnl
        have hw2 := below_new (w := wr) (.cells #[.int .u8 (k.toNat : Int)] 5)
        have hk := new_lit wr [k] #[.int .u8 (k.toNat : Int)] (0, 0) rfl (by simp)
        have hx2 := HBX.out.below hw2
        have hp3 := new_parts (wr.alloc (.cells #[.int .u8 (k.toNat : Int)] 5)) [.slice (some ⟨wr.heap.size, 0, none⟩) 1 1, .slice Ax l.length cx] [[k], l] rfl (by simp) (fun i y m hy hm => by
          match i with
          | 0 =>
            obtain rfl : Value.slice (some ⟨wr.heap.size, 0, none⟩) 1 1 = y := by simpa using hy
            obtain rfl : [k] = m := by simpa using hm
            exact hk
          | 1 =>
            obtain rfl : Value.slice Ax l.length cx = y := by simpa using hy
            obtain rfl : l = m := by simpa using hm
            exact hx2
          | i + 2 => simp at hy)
        have hsz2 : (wr.alloc (.cells #[.int .u8 (k.toNat : Int)] 5)).heap.size = wr.heap.size + 1 := asz _ _
        rw [hsz2] at hp3
        have hw3 := below_new (w := wr.alloc (.cells #[.int .u8 (k.toNat : Int)] 5)) (.cells [Value.slice (some ⟨wr.heap.size, 0, none⟩) 1 1, .slice Ax l.length cx].toArray 32)
        have hw03 := hw2.trans (hw3.mono (by rw [hsz2]; omega))
        have HW3 := Lib.hid (HB.out.trans (hw03.mono HB.out.size))
        have HWR := Lib.hid (wrap_any (HM.out.below HW3.out) hp3 (by simp; omega))
        have HOW3 := Lib.hid (HOW.out.below hw03)
        have HBF3 := Lib.hid (HBF.out.below hw03)
        clear hk hx2 hp3 hsz2 hw2 hw3 hw03 hlong hnl
        generalize hS : (framesB k (ls.take j)).flatten.length = S at *
        have HSE := Lib.hid hS
        clear hS
        have hS2 : (S : Int) ≤ 16391000 := by have := hfl.out; omega
        clear hfl
        go_wp2_with fail
        refine (HWR.out).mono ?_
        rintro e w4 ⟨f, rfl, _, hf2, hb4⟩
        have hof := hf2 (by simp; exact HNL.out)
        have HOF := Lib.hid hof
        have HFB := Lib.hid (hof.bf.mono (G := offRow w.heap.size u7) fun b _ hb => ⟨Nat.le_trans HW3.out.size hb, fun e => by
          have := (HOW3.out.lt b e).2
          have hb' := hb
          omega⟩)
        have HB4 := Lib.hid (HW3.out.trans (hb4.mono HW3.out.size))
        have HOW4 := Lib.hid (HOW3.out.below hb4)
        have HBF4 := Lib.hid (HBF3.out.below hb4)
        have hfl : (frameB [[k], l].flatten).length = l.length + 8 := by rw [frameB_len]; simp
        obtain ⟨A9, c9, rfl, _, _, _⟩ := hof.bis
        rw [hfl] at HFB
        rw [hfl]
        have hA := Below.new (w := w4) (.cells #[.slice A9 (l.length + 8) c9] 32)
        have HO5 := Lib.hid (HOW4.out.below hA)
        have HBF5 := Lib.hid (HBF4.out.below hA)
        have HFB5 := Lib.hid (HFB.out.below hA)
        have HB5 := Lib.hid (HB4.out.trans (hA.mono HB4.out.size))
        have src : Hid (Src Tryz.prog 1 42 (.slice (some ⟨w4.heap.size, 0, none⟩) 1 1) [Value.slice A9 (l.length + 8) c9].length [.slice A9 (l.length + 8) c9] (w4.alloc (.cells #[.slice A9 (l.length + 8) c9] 32))) :=
          Src.ofSlice _ Tryz.underlying42 ⟨w4.heap.size, 0, none⟩ 1 1 [.slice A9 (l.length + 8) c9] rfl (one_new _ _ rfl _ _) (by simp [Value.oneCell'])
        have HXL : Hid (xs.length ≤ 1000000) := by
          show _ ≤ _
          rw [HBF.out.1]
          unfold framesB
          rw [List.length_map, List.length_take]
          have := HL.out
          omega
        have hnl : (l.length : Int) ≤ 16383 := by have := HNL.out; omega
        have hw9 : IntKind.i64.wrap ((S : Int) + ((l.length : Int) + 8)) = (S : Int) + ((l.length : Int) + 8) := IntWalk.i64_in _ (by omega)
        clear hA hf2 hb4 hof hfl
        go_wp2_with (at_builtin; refine wpList_append_vals _ rfl _ _ 42 rfl w.heap.size xs [.slice A9 (l.length + 8) c9] _ _ rfl rfl HO5.out src.out ?_ HB5.out.size ?_)
        · have := HXL.out; simp; omega
        intro v' w' hown' hgrow hblk
        have HOFF := Lib.hid hown'
        have HBFF := Lib.hid (((HBF5.out).append (BFs.one HFB5.out)).row hgrow (by rw [asz]; exact hblk))
        have HBG := Lib.hid (HB5.out.grown hgrow HB5.out.size (fun b hb => (HO5.out.lt b hb).1))
        clear hown' hgrow hblk hc
        go_wp2_with fail
        go_roundw
        case rel =>
          have e1 : ls.take (j + 1) = ls.take j ++ [l] := by rw [List.take_add_one, HLJ.out]; rfl
          refine ⟨j + 1, _, HLT.out, by go_num, ?_, HOFF.out, ?_, fun m hm => ?_, HBG.out⟩
          · rw [e1, framesB_snoc, List.flatten_append, List.length_append, HSE.out]
            simp only [List.flatten_cons, List.flatten_nil, List.append_nil, frameB_len, List.length_cons]
            congr 1
          · rw [e1, framesB_snoc]
            simpa using HBFF.out
          · rw [e1] at hm
            rcases List.mem_append.1 hm with hm | hm
            · exact HALL.out m hm
            · rw [List.mem_singleton.1 hm]; exact HNL.out
        case measure => simp [intOf]; omega
    · obtain rfl : j = ls.length := by omega
      go_wp2_with fail
      go_ret3
      have e1 := HBF.out
      have e2 := HALL.out
      rw [List.take_length] at e1 e2
      rw [List.take_length]
      exact ⟨HB.out, .inr ⟨e2, _, xs, rfl, HOW.out, e1⟩⟩

/-! copies -/
theorem OwnV.set {w : World} {base g cap : Nat} {l : List Value} (h : OwnV w base g cap l) {k : Nat} (hk : k < l.length) (u : Value) : OwnV (w.setCell ⟨g, k, none⟩ u) base g cap (l.set k u) := by
  have hs : (w.setCell ⟨g, k, none⟩ u).heap.size = w.heap.size := by simp [World.setCell]
  have hk2 : k < cap := Nat.lt_of_lt_of_le hk h.le
  have hsame : (w.setCell ⟨g, k, none⟩ u).cell? ⟨g, k, none⟩ = some u := World.cell?_setCell_same' _ _ _ (h.there k hk2).1
  have hother : ∀ j, j ≠ k → (w.setCell ⟨g, k, none⟩ u).cell? ⟨g, j, none⟩ = w.cell? ⟨g, j, none⟩ := fun j hj => World.cell?_setCell_other _ _ _ _ (fun e => hj (by injection e with _ e _; exact e.symm))
  refine ⟨h.new, by rw [hs]; exact h.lt, by rw [List.length_set]; exact h.le, h.max, fun j b hj => ?_, fun j hj => ⟨?_, by rw [World.frozen?_setCell]; exact (h.there j hj).2⟩⟩
  · by_cases hjk : j = k
    · subst hjk
      rw [List.getElem?_set_self hk] at hj
      rw [hsame, ← Option.some.inj hj]
    · rw [List.getElem?_set_ne (by omega)] at hj
      rw [hother j hjk]
      exact h.holds j b hj
  · by_cases hjk : j = k
    · subst hjk; rw [hsame]; rfl
    · rw [hother j hjk]; exact (h.there j hj).1
def CopP (w : World) (ls : List (List UInt8)) (e : Ending) (w' : World) : Prop := Below w.heap.size w w' ∧ ∃ v xs, e = .returned v ∧ OwnS w' w.heap.size v xs ∧ BFs w' (offRow w.heap.size v) xs ls
set_option maxRecDepth 100000 in
set_option maxHeartbeats 2000000 in
theorem copies_any {w : World} {v : Value} {ls : List (List UInt8)} (h : PIs w v ls) (hl : ls.length ≤ 1000000) (hb : ∀ l ∈ ls, l.length ≤ 1073741824) : Calls Tryz.prog 73 #[v] w (CopP w ls) := by
  have HP := Lib.hid h
  have HBD := Lib.hid hb
  obtain ⟨A, cap, rfl, h1, h2, h3⟩ := h
  unfold maxLen at h2
  clear h3 hb
  have HL := Lib.hid hl
  have hlw : (ls.length : Int) ≤ 1000000 := by omega
  go_enter Tryz.func73, Tryz.ntmps73
  go_wp2_with (at_make; refine wpList_make_vals _ rfl _ _ rfl w.heap.size ls.length ls.length _ _ rfl rfl ?_ ?_ ?_ ?_ ?_ ?_)
  · first | rfl | simp
  · first | rfl | simp
  · exact Nat.le_refl _
  · omega
  · exact Nat.le_refl _
  intro w1 hown hb
  have HO1 : Hid (∃ xs : List Value, xs.length = ls.length ∧ OwnV w1 w.heap.size w.heap.size ls.length xs) := by
    refine ⟨List.replicate ls.length (.slice none 0 0), by simp, ?_⟩
    rcases hown with ⟨e, _⟩ | ⟨g, c, e, ho⟩
    · cases e
    · injection e with e e2 e3
      injection e with e
      injection e with e _ _
      subst e
      subst e3
      exact ho
  have HB1 := Lib.hid hb
  clear hown hb
  go_wp2_with fail
  go_loopw [11] (fun i wr => ∃ (j : Nat) (xs : List Value), j ≤ ls.length ∧ i = .int .i64 j ∧ OwnV wr w.heap.size w.heap.size ls.length xs ∧ xs.length = ls.length ∧ BFs wr (fun b => w.heap.size < b) (xs.take j) (ls.take j) ∧ Below w.heap.size w wr) (fun i _ => ls.length - (intOf i).toNat)
  case atStart =>
    obtain ⟨xs, hx, ho⟩ := HO1.out
    exact ⟨0, xs, by omega, rfl, ho, hx, BFs.nil _ _, HB1.out⟩
  case round =>
    obtain ⟨j, xs, hj, rfl, hown, hxl, hbf, hb⟩ := hrel
    have HOW := Lib.hid hown
    have HBF := Lib.hid hbf
    have HB := Lib.hid hb
    have HXL := Lib.hid hxl
    clear hown hbf hb hxl
    by_cases hlt : j < ls.length
    · have hlj : ls[j]? = some ls[j] := List.getElem?_eq_getElem hlt
      have HLJ := Lib.hid hlj
      obtain ⟨A', c', e', _, _, h3'⟩ := HP.out.below HB.out
      injection e' with e' e2 e3
      subst e'
      obtain ⟨a, x, rfl, hab, hc, hbx⟩ := h3' j _ hlj
      have HMEM : Hid (ls[j].length ≤ 1073741824) := HBD.out _ (List.getElem_mem hlt)
      generalize ls[j] = l at *
      have HCL := Lib.hid (clone_any hbx HMEM.out)
      have HLT := Lib.hid hlt
      have l1 : (j : Int) < (ls.length : Int) := by omega
      clear hlj h3' e2 e3 hj hbx
      go_wp2_with fail
      refine (HCL.out).mono ?_
      rintro e w2 ⟨f, rfl, hof, hb2⟩
      have HOF := Lib.hid hof.bf
      have HB2 := Lib.hid (HB.out.trans (hb2.mono HB.out.size))
      have HOW2 := Lib.hid (HOW.out.keep hb2.size (hb2.block _ HOW.out.lt))
      have HBF2 := Lib.hid (HBF.out.below hb2)
      have hx2 := HOW2.out.there j HLT.out
      obtain ⟨z, hz⟩ := Option.isSome_iff_exists.1 hx2.1
      have hfr := hx2.2
      have hwsz : w.heap.size < wr.heap.size := HOW.out.lt
      obtain ⟨A9, c9, rfl, _, _, _⟩ := hof.bis
      clear hof hb2 hc hx2
      go_wp2_with fail
      go_roundw
      case rel =>
        refine ⟨j + 1, xs.set j (.slice A9 l.length c9), HLT.out, by go_num, HOW2.out.set (by rw [HXL.out]; exact HLT.out) _, by simp [HXL.out], ?_, HB2.out.setCell (Nat.le_refl _) _⟩
        have hjx : j < xs.length := by rw [HXL.out]; exact HLT.out
        have e1 : (xs.set j (.slice A9 l.length c9)).take (j + 1) = xs.take j ++ [.slice A9 l.length c9] := by
          rw [List.take_add_one, List.getElem?_set_self hjx, List.take_set_of_le (Nat.le_refl _)]; rfl
        have e2 : ls.take (j + 1) = ls.take j ++ [l] := by rw [List.take_add_one, HLJ.out]; rfl
        rw [e1, e2]
        exact ((HBF2.out).append (BFs.one (HOF.out.mono fun b _ hb => Nat.lt_of_lt_of_le hwsz hb))).touch ((Touch.refl (fun k => k = w.heap.size) _).setCell ⟨w.heap.size, j, none⟩ (fun _ => rfl) _) (fun k (hk : w.heap.size < k) e => by omega)
      case measure => simp [intOf]; omega
    · obtain rfl : j = ls.length := by omega
      go_wp2_with fail
      go_ret
      have e1 := HBF.out
      rw [List.take_length, ← HXL.out, List.take_length] at e1
      refine ⟨HB.out, _, xs, rfl, .inr ⟨w.heap.size, ls.length, by rw [HXL.out]; rfl, HOW.out⟩, e1.mono fun k _ hk => ⟨Nat.le_of_lt hk, fun e => ?_⟩⟩
      have e2 : some w.heap.size = some k := e
      injection e2 with e2
      omega
end Go.Proofs.YtnegnokielmgkaaGreatDoor

namespace Go.Proofs.YtnegnokielmgkaaGreatDoor
open Go.RowKit

structure Js where
  p : Pl
  seg : Nat
  st : List UInt8
  rs : List (List UInt8)
/-- The blocks that a journal's calls may write. -/
def JB (j t : Nat) (T : Tp) (rv : Value) : Nat → Prop := fun k => k = j ∨ k ∈ T.blocks t ∨ rv.ownBlock = some k
def JF (j t : Nat) (T : Tp) (rv : Value) : Nat → Prop := fun k => ¬ JB j t T rv k
structure JAt (w : World) (j t : Nat) (T : Tp) (J : Js) (sv rv : Value) (xs : List Value) : Prop where
  head : w.heap[j]? = some (.cells #[.pointer (some ⟨t, 0, none⟩), .int .i64 (J.seg : Int), sv, rv] 111 (0, 0))
  tp : TP w t T J.p
  st : BF w (JF j t T rv) sv J.st
  row : OwnS w 0 rv xs
  recs : BFs w (JF j t T rv) xs J.rs
  jt : j ∉ T.blocks t
  rj : rv.ownBlock ≠ some j
  rt : ∀ k, rv.ownBlock = some k → k ∉ T.blocks t
section
variable {w w' : World} {j t : Nat} {T T' : Tp} {J : Js} {sv rv : Value} {xs : List Value} {q : Pl}
theorem JAt.lt (h : JAt w j t T J sv rv xs) : ∀ k, JB j t T rv k → k < w.heap.size := by
  rintro k (rfl | hk | hk)
  · exact heap_lt h.head
  · exact h.tp.tape.lt k hk
  · exact (h.row.lt k hk).2
theorem OwnS.keep {w w' : World} {base : Nat} {v : Value} {l : List Value} (h : OwnS w base v l) (hs : w.heap.size ≤ w'.heap.size) (hk : ∀ k, v.ownBlock = some k → w'.heap[k]? = w.heap[k]?) : OwnS w' base v l := by
  rcases h with h | ⟨g, cap, rfl, h⟩
  · exact .inl h
  · exact .inr ⟨g, cap, rfl, h.keep hs (hk g rfl)⟩
theorem JAt.below (h : JAt w j t T J sv rv xs) (hb : Below w.heap.size w w') : JAt w' j t T J sv rv xs :=
  ⟨(hb.block j (heap_lt h.head)).trans h.head, h.tp.below hb, h.st.below hb, h.row.below hb, h.recs.below hb, h.jt, h.rj, h.rt⟩
/-- Nothing of the journal's own is touched. -/
theorem JAt.touch {S : Nat → Prop} (h : JAt w j t T J sv rv xs) (ht : Touch S w w') (hS : ∀ k, JB j t T rv k → ¬ S k) (hS2 : ∀ k, JF j t T rv k → k < w.heap.size → ¬ S k) : JAt w' j t T J sv rv xs :=
  ⟨(ht.block j (heap_lt h.head) (hS j (.inl rfl))).trans h.head, h.tp.touch ht (fun k hk => hS k (.inr (.inl hk))), h.st.keep ht.size (fun k hk hf => ht.block k hk (hS2 k hf hk)), h.row.keep ht.size (fun k hk => ht.block k (h.row.lt k hk).2 (hS k (.inr (.inr hk)))), h.recs.keep ht.size (fun k hk hf => ht.block k hk (hS2 k hf hk)), h.jt, h.rj, h.rt⟩
/-- The tape alone is changed. -/
theorem JAt.tape (h : JAt w j t T J sv rv xs) (h1 : TP w' t T' q) (ht : Touch (fun k => k ∈ T.blocks t) w w') (hb : ∀ k ∈ T'.blocks t, k ∈ T.blocks t ∨ w.heap.size ≤ k) : JAt w' j t T' { J with p := q } sv rv xs := by
  have hjl := heap_lt h.head
  have hf : ∀ k, k < w.heap.size → JF j t T rv k → JF j t T' rv k := fun k hk hf hc => hf (by
    rcases hc with hc | hc | hc
    · exact .inl hc
    · exact (hb k hc).elim (fun e => .inr (.inl e)) (fun e => by omega)
    · exact .inr (.inr hc))
  have hk : ∀ k, k < w.heap.size → JF j t T rv k → w'.heap[k]? = w.heap[k]? := fun k hk hf => ht.block k hk (fun hc => hf (.inr (.inl hc)))
  refine ⟨(ht.block j hjl h.jt).trans h.head, h1, ?_, h.row.keep ht.size (fun k hk => ht.block k (h.row.lt k hk).2 (h.rt k hk)), ?_, far_of hjl h.jt hb, h.rj, fun k hk => far_of (h.row.lt k hk).2 (h.rt k hk) hb⟩
  · exact (h.st.mono (G := fun k => JF j t T rv k ∧ JF j t T' rv k) fun k hk hf' => ⟨hf', hf k hk hf'⟩).keep ht.size (fun k hk' hf' => hk k hk' hf'.1) |>.mono fun k _ hf' => hf'.2
  · exact (h.recs.mono (G := fun k => JF j t T rv k ∧ JF j t T' rv k) fun k hk hf' => ⟨hf', hf k hk hf'⟩).keep ht.size (fun k hk' hf' => hk k hk' hf'.1) |>.mono fun k _ hf' => hf'.2
theorem JAt.cell (h : JAt w j t T J sv rv xs) : w.cell? ⟨j, 0, none⟩ = some (.pointer (some ⟨t, 0, none⟩)) ∧ w.cell? ⟨j, 1, none⟩ = some (.int .i64 (J.seg : Int)) ∧ w.cell? ⟨j, 2, none⟩ = some sv ∧ w.cell? ⟨j, 3, none⟩ = some rv :=
  ⟨cell_of h.head 0, cell_of h.head 1, cell_of h.head 2, cell_of h.head 3⟩
end
/-- What a call leaves of a journal. -/
def JD (w : World) (B : Nat → Prop) (j t : Nat) (J : Js) (w' : World) : Prop := ∃ T sv rv xs, JAt w' j t T J sv rv xs ∧ Touch B w w' ∧ ∀ k, JB j t T rv k → B k ∨ w.heap.size ≤ k
section
variable {w w' w'' : World} {j t : Nat} {T : Tp} {J : Js} {sv rv : Value} {xs : List Value} {q : Pl} {B : Nat → Prop}
theorem JD.same (h : JAt w j t T J sv rv xs) (hb : Below w.heap.size w w') : JD w (JB j t T rv) j t J w' := ⟨T, sv, rv, xs, h.below hb, .of_below hb, fun k hk => .inl hk⟩
theorem JD.below (h : JD w B j t J w') (hb : Below w'.heap.size w' w'') : JD w B j t J w'' := by
  obtain ⟨T, sv, rv, xs, h1, h2, h3⟩ := h
  exact ⟨T, sv, rv, xs, h1.below hb, h2.after hb, h3⟩
theorem JD.after {w0 : World} (h : JD w B j t J w') (hb : Below w0.heap.size w0 w) : JD w0 B j t J w' := by
  obtain ⟨T, sv, rv, xs, h1, h2, h3⟩ := h
  exact ⟨T, sv, rv, xs, h1, Touch.ahead hb h2, fun k hk => (h3 k hk).imp id fun e => Nat.le_trans hb.size e⟩
theorem JD.trans {B1 : Nat → Prop} {w1 : World} (ht : Touch B w w1) (hb : ∀ k, B1 k → B k ∨ w.heap.size ≤ k) (h : JD w1 B1 j t J w') : JD w B j t J w' := by
  obtain ⟨T, sv, rv, xs, h1, h2, h3⟩ := h
  refine ⟨T, sv, rv, xs, h1, ht.trans h2 (fun i hi hk => (hb i hk).elim id (fun e => by omega)), fun k hk => ?_⟩
  rcases h3 k hk with hk | hk
  · exact hb k hk
  · exact .inr (Nat.le_trans ht.size hk)
/-- The tape alone is changed. -/
theorem JAt.tpd (h : JAt w j t T J sv rv xs) (hd : TPd w t T q w') : JD w (JB j t T rv) j t { J with p := q } w' := by
  obtain ⟨T', h1, h2, h3⟩ := hd
  refine ⟨T', sv, rv, xs, h.tape h1 h2 h3, h2.mono (fun k _ hk => .inr (.inl hk)), fun k hk => ?_⟩
  rcases hk with hk | hk | hk
  · exact .inl (.inl hk)
  · exact (h3 k hk).imp (fun e => .inr (.inl e)) id
  · exact .inl (.inr (.inr hk))
end
end Go.Proofs.YtnegnokielmgkaaGreatDoor

namespace Go.Proofs.YtnegnokielmgkaaGreatDoor
open Go.RowKit

theorem BFs.one_cell {w : World} {F : Nat → Prop} {xs : List Value} {ls : List (List UInt8)} (h : BFs w F xs ls) : ∀ u ∈ xs, u.oneCell' = true := by
  intro u hu
  obtain ⟨i, hi⟩ := List.getElem?_of_mem hu
  have hl : i < ls.length := by rw [← h.1]; exact (List.getElem?_eq_some_iff.1 hi).1
  obtain ⟨⟨A, cap, rfl, _⟩, _⟩ := h.2 i u _ hi (List.getElem?_eq_getElem hl)
  rfl
theorem VIs.src {w : World} {F G : Nat → Prop} {v : Value} {xs : List Value} {ls : List (List UInt8)} (h : VIs w F v xs) (k : BFs w G xs ls) : Src Tryz.prog 1 42 v xs.length xs w := by
  obtain ⟨A, cap, rfl, h1, h2, h3, h4⟩ := h
  cases A with
  | none =>
    have : xs = [] := by
      cases xs with
      | nil => rfl
      | cons x r => obtain ⟨a, e, _⟩ := h4 0 x rfl; cases e
    subst this
    exact Src.ofNil w Tryz.underlying42 cap
  | some a =>
    exact Src.ofSlice w Tryz.underlying42 a xs.length cap xs (by simp) (fun j u hu => by
      obtain ⟨a', e, hc⟩ := h4 j u hu
      cases e; exact hc) k.one_cell
/-- append, as one step of a region that draws: what it does is told by its run. -/
theorem step_append_run {ops : Array Oper} {o : Oper} {a : Act} {w wa : World} {K : Act → World → Prop} {Q : Exit → Act → World → Prop} {E : Prop} {u v v' : Value}
    (hrun : (Builtin.append_ #[42, 42] 42 #[u, v]).run Tryz.prog w = .ok v' wa) (hgd : o.guard = none) (s x : Operand) (ho : o.op = .call { callee := .builtin .append, args := #[s, x], argTypes := #[42, 42] }) (hty : o.type = 42)
    (hs : a.eval s = u) (hx : a.eval x = v) (h : K (a.put o.dst v') wa) : if Region.wanted o (yielded ops a.tmps) = true then Oper.wp Tryz.prog o a w K Q else E := by
  have hw : Region.wanted o (yielded ops a.tmps) = true := by simp [Region.wanted, hgd]
  rw [if_pos hw]
  unfold Oper.wp execOp
  simp only [ho, hty, resolve, invoke, builtin, Sem.run_bind, Sem.run_pure, Result.andThen_ok, List.map_toArray, List.map_cons, List.map_nil, hs, hx, hrun]
  exact h
/-- Behind copies: what append does, and what stands then. -/
def PutP (w0 : World) (j t : Nat) (T : Tp) (J : Js) (sv rv : Value) (recs : List (List UInt8)) (w5 : World) (v5 : Value) : Prop :=
  ∃ A n c wa, (Builtin.append_ #[42, 42] 42 #[rv, v5]).run Tryz.prog w5 = .ok (.slice A n c) wa ∧ wa.cell? ⟨j, 3, none⟩ = some rv ∧ wa.frozen? ⟨j, 3, none⟩ = false ∧
    (∃ xs', JAt (wa.setCell ⟨j, 3, none⟩ (.slice A n c)) j t T { J with rs := J.rs ++ recs } sv (.slice A n c) xs') ∧ Touch (JB j t T rv) w0 (wa.setCell ⟨j, 3, none⟩ (.slice A n c)) ∧ ∀ k, (Value.slice A n c).ownBlock = some k → rv.ownBlock = some k ∨ w0.heap.size ≤ k
theorem put_jd {w0 w : World} {j t : Nat} {T : Tp} {J : Js} {sv rv rv' : Value} (h : (∃ xs', JAt w j t T J sv rv' xs') ∧ Touch (JB j t T rv) w0 w ∧ ∀ k, rv'.ownBlock = some k → rv.ownBlock = some k ∨ w0.heap.size ≤ k) : JD w0 (JB j t T rv) j t J w := by
  obtain ⟨⟨xs', h1⟩, h2, h3⟩ := h
  refine ⟨T, sv, rv', xs', h1, h2, fun k hk => ?_⟩
  rcases hk with hk | hk | hk
  · exact .inl (.inl hk)
  · exact .inl (.inr (.inl hk))
  · exact (h3 k hk).elim (fun e => .inl (.inr (.inr e))) .inr
theorem put_recsF {w0 W w5 : World} {j t : Nat} {T : Tp} {J : Js} {sv rv v5 : Value} {xs ys : List Value} {recs : List (List UInt8)} (h : JAt w0 j t T J sv rv xs) (hW : Below w0.heap.size w0 W) (h5 : Below W.heap.size W w5) (ho : OwnS w5 W.heap.size v5 ys) (hb : BFs w5 (JF j t T rv) ys recs) (hl : J.rs.length + recs.length ≤ 1000000) :
    PutP w0 j t T J sv rv recs w5 v5 := by
  have hJ := h.below (hW.trans (h5.mono hW.size))
  have hs0 := hW.size
  have hs5 := h5.size
  have hxl : xs.length = J.rs.length := h.recs.1
  have hyl : ys.length = recs.length := hb.1
  obtain ⟨v', wa, hrun, hown, hgrow, hblk⟩ := run_append_vals w5 0 42 42 rv xs ys v5 hJ.row (ho.vis.src hb) (by omega) (Nat.zero_le _)
  have hform : ∃ A n c, v' = .slice A n c := by
    rcases hown with ⟨rfl, _⟩ | ⟨g, c, rfl, _⟩
    · exact ⟨_, _, _, rfl⟩
    · exact ⟨_, _, _, rfl⟩
  obtain ⟨A, n, c, rfl⟩ := hform
  have hjl : j < w5.heap.size := heap_lt hJ.head
  have hja : wa.heap[j]? = some (.cells #[.pointer (some ⟨t, 0, none⟩), .int .i64 (J.seg : Int), sv, rv] 111 (0, 0)) := (hgrow.block j hjl (fun e => hJ.rj e.symm)).trans hJ.head
  have hsa := hgrow.size
  have hnew : ∀ k, (Value.slice A n c).ownBlock = some k → rv.ownBlock = some k ∨ k = w5.heap.size := fun k e => by
    rcases hblk with e2 | e2
    · exact .inl (e2 ▸ e)
    · rw [e2] at e; injection e with e; exact .inr e.symm
  have hT : Touch (fun k => k = j ∨ rv.ownBlock = some k) w5 (wa.setCell ⟨j, 3, none⟩ (.slice A n c)) := ((Touch.refl _ w5).grown hgrow (fun k e _ => .inr e)).setCell ⟨j, 3, none⟩ (fun _ => .inl rfl) _
  refine ⟨A, n, c, wa, hrun, cell_of hja 3, free0 hja 3, ⟨xs ++ ys, ?_⟩, ?_, ?_⟩
  · have hF : ∀ k, k < w5.heap.size → JF j t T rv k → JF j t T (.slice A n c) k := fun k hk hf hc => hf (by
      rcases hc with hc | hc | hc
      · exact .inl hc
      · exact .inr (.inl hc)
      · exact (hnew k hc).elim (fun e => .inr (.inr e)) (fun e => by omega))
    have hkeep : ∀ k, k < w5.heap.size → JF j t T rv k → (wa.setCell ⟨j, 3, none⟩ (.slice A n c)).heap[k]? = w5.heap[k]? := fun k hk hf => by
      rw [Below.heap_setCell _ _ _ _ (show k ≠ j from fun e => hf (.inl e))]
      exact hgrow.block k hk (fun e => hf (.inr (.inr e.symm)))
    have hsz : (wa.setCell ⟨j, 3, none⟩ (.slice A n c)).heap.size = wa.heap.size := setCell_size _ _ _
    have hrows : BFs (wa.setCell ⟨j, 3, none⟩ (.slice A n c)) (JF j t T (.slice A n c)) (xs ++ ys) (J.rs ++ recs) := by
      have k1 : BFs w5 (fun k => JF j t T rv k ∧ JF j t T (.slice A n c) k) xs J.rs := hJ.recs.mono fun k hk hf => ⟨hf, hF k hk hf⟩
      have k2 : BFs w5 (fun k => JF j t T rv k ∧ JF j t T (.slice A n c) k) ys recs := hb.mono fun k hk hf => ⟨hf, hF k hk hf⟩
      exact ((k1.append k2).keep (by rw [hsz]; exact hsa) (fun k hk hf => hkeep k hk hf.1)).mono fun k _ hf => hf.2
    refine ⟨?_, hJ.tp.touch hT (fun k hk hc => hc.elim (fun e => h.jt (e ▸ hk)) (fun e => h.rt k e hk)), ?_, ?_, hrows, h.jt, fun e => ?_, fun k e hk => ?_⟩
    · rw [set_at hja 3]
      rfl
    · exact ((hJ.st.mono (G := fun k => JF j t T rv k ∧ JF j t T (.slice A n c) k) fun k hk hf => ⟨hf, hF k hk hf⟩).keep (by rw [hsz]; exact hsa) (fun k hk hf => hkeep k hk hf.1)).mono fun k _ hf => hf.2
    · exact hown.keep (Nat.le_of_eq hsz.symm) (fun k e => Below.heap_setCell _ _ _ _ (fun e2 => by
        show False
        have e2 : k = j := e2
        subst e2
        exact (hnew _ e).elim hJ.rj (fun e => by omega)))
    · exact (hnew _ e).elim hJ.rj (fun e => by omega)
    · exact (hnew _ e).elim (fun e => h.rt k e hk) (fun e => by have := hJ.tp.tape.lt k hk; omega)
  · exact Touch.ahead (hW.trans (h5.mono hW.size)) (hT.mono fun k _ hk => hk.elim .inl (fun e => .inr (.inr e)))
  · intro k hk
    exact (hnew k hk).elim .inl (fun e => .inr (by omega))
theorem put_recs {w0 W w5 : World} {j t : Nat} {T : Tp} {J : Js} {sv rv v5 : Value} {xs ys : List Value} {recs : List (List UInt8)} (h : JAt w0 j t T J sv rv xs) (hW : Below w0.heap.size w0 W) (h5 : Below W.heap.size W w5) (ho : OwnS w5 W.heap.size v5 ys) (hb : BFs w5 (offRow W.heap.size v5) ys recs) (hl : J.rs.length + recs.length ≤ 1000000) :
    PutP w0 j t T J sv rv recs w5 v5 :=
  put_recsF h hW h5 ho (hb.mono fun k hk hf hc => by
    have := h.lt k hc
    have := hf.1
    have := hW.size
    omega) hl

theorem frames_le (k : UInt8) : ∀ (ms : List (List UInt8)), (∀ l ∈ ms, l.length ≤ 16383) → (framesB k ms).flatten.length ≤ 16391 * ms.length := by
  intro ms
  induction ms with
  | nil => intro _; simp [framesB]
  | cons m ms ih =>
    intro hm
    have := ih (fun l hl => hm l (List.mem_cons_of_mem _ hl))
    have hm0 := hm m (List.mem_cons_self ..)
    unfold framesB at *
    rw [List.map_cons, List.flatten_cons, List.length_append, frameB_len, List.length_cons, List.length_cons]
    omega
/-! add -/
def addP (J : Js) (recs : List (List UInt8)) : Int × Js :=
  if recs = [] then (0, J)
  else if ∃ l ∈ recs, 16383 < l.length then (7, J)
  else if (placeP J.p (framesB 0 recs).flatten.length J.seg).2.1 ≠ 0 then ((placeP J.p (framesB 0 recs).flatten.length J.seg).2.1, { J with p := (placeP J.p (framesB 0 recs).flatten.length J.seg).2.2 })
  else if (doS (placeP J.p (framesB 0 recs).flatten.length J.seg).2.2 0 (placeP J.p (framesB 0 recs).flatten.length J.seg).1 0 (framesB 0 recs).flatten).1 ≠ 0 then ((doS (placeP J.p (framesB 0 recs).flatten.length J.seg).2.2 0 (placeP J.p (framesB 0 recs).flatten.length J.seg).1 0 (framesB 0 recs).flatten).1, { J with p := (doS (placeP J.p (framesB 0 recs).flatten.length J.seg).2.2 0 (placeP J.p (framesB 0 recs).flatten.length J.seg).1 0 (framesB 0 recs).flatten).2 })
  else (0, { J with p := (doS (placeP J.p (framesB 0 recs).flatten.length J.seg).2.2 0 (placeP J.p (framesB 0 recs).flatten.length J.seg).1 0 (framesB 0 recs).flatten).2, rs := J.rs ++ recs })
section
variable {J : Js} {recs fr : List (List UInt8)} {S : Nat} {seg pe de : Int} {p2 p3 : Pl}
theorem addP_place (h0 : ¬ recs = []) (hs : ¬ ∃ l ∈ recs, 16383 < l.length) (hfr : framesB 0 recs = fr) (hS : fr.flatten.length = S) (hp : placeP J.p S J.seg = (seg, pe, p2)) (he : ¬ pe = 0) : addP J recs = (pe, { J with p := p2 }) := by
  subst hfr hS
  unfold addP
  rw [if_neg h0, if_neg hs, hp, if_pos he]
theorem addP_tape (h0 : ¬ recs = []) (hs : ¬ ∃ l ∈ recs, 16383 < l.length) (hfr : framesB 0 recs = fr) (hS : fr.flatten.length = S) (hp : placeP J.p S J.seg = (seg, 0, p2)) (hd : doS p2 0 seg 0 fr.flatten = (de, p3)) (he : ¬ de = 0) : addP J recs = (de, { J with p := p3 }) := by
  subst hfr hS
  unfold addP
  rw [if_neg h0, if_neg hs, hp, if_neg (by simp), hd, if_pos he]
theorem addP_ok (h0 : ¬ recs = []) (hs : ¬ ∃ l ∈ recs, 16383 < l.length) (hfr : framesB 0 recs = fr) (hS : fr.flatten.length = S) (hp : placeP J.p S J.seg = (seg, 0, p2)) (hd : doS p2 0 seg 0 fr.flatten = (0, p3)) : addP J recs = (0, { J with p := p3, rs := J.rs ++ recs }) := by
  subst hfr hS
  unfold addP
  rw [if_neg h0, if_neg hs, hp, if_neg (by simp), hd, if_neg (by simp)]
end
def JErr (w : World) (B : Nat → Prop) (j t : Nat) (r : Int × Js) (e : Ending) (w' : World) : Prop := ∃ v, e = .returned v ∧ ErrP r.1 w' v w' ∧ JD w B j t r.2 w'
/-- The two listed variables stand, and lie apart. -/
structure Ok2 (w : World) (B : Nat → Prop) : Prop where
  glob : Glob w
  mov : Mov w
  g : ¬ B 0
  m : ¬ B 1
theorem Mov.touch' {S : Nat → Prop} {w w' : World} (h : Mov w) (ht : Touch S w w') (hm : ¬ S 1) : Mov w' := fun r x hx => (World.cell?_of_block (a := ⟨1, r, none⟩) (ht.block _ h.lt hm)).trans (h r x hx)
theorem Ok2.below {w w' : World} {B : Nat → Prop} (h : Ok2 w B) (hb : Below w.heap.size w w') : Ok2 w' B := ⟨h.glob.below hb, h.mov.below hb, h.g, h.m⟩
theorem Ok2.touch {w w' : World} {B : Nat → Prop} (h : Ok2 w B) (ht : Touch B w w') : Ok2 w' B := ⟨h.glob.touch' ht h.g, h.mov.touch' ht h.m, h.g, h.m⟩
theorem ErrP.is_nil {E : Int} {w w' : World} {v : Value} (h : ErrP E w v w') (hE : E = 0) : v = .nilIface := by
  subst hE
  exact h.nil.1
set_option maxRecDepth 100000 in
set_option maxHeartbeats 4000000 in
theorem add_any {w : World} {j t : Nat} {T : Tp} {J : Js} {sv rv : Value} {xs : List Value} {A : Option Addr} {c : Nat} {recs : List (List UInt8)} (h : JAt w j t T J sv rv xs) (hO : Ok2 w (JB j t T rv)) (hP : ∀ w', Touch (JB j t T rv) w w' → PIs w' (.slice A recs.length c) recs) (hl : recs.length ≤ 1000) (hJl : J.rs.length ≤ 900000) :
    Calls Tryz.prog 70 #[.pointer (some ⟨j, 0, none⟩), .slice A recs.length c] w (JErr w (JB j t T rv) j t (addP J recs)) := by
  have H := Lib.hid h
  have HO := Lib.hid hO
  have HP := Lib.hid hP
  have HW := Lib.hid (wrapK_any 0 hO.mov (hP w (.refl _ _)) hl)
  clear h hO hP
  by_cases h0 : recs = []
  · have HA : Hid (addP J recs = (0, J)) := by unfold addP; rw [if_pos h0]; exact Lib.hid rfl
    have hz : recs.length = 0 := by rw [h0]; rfl
    rw [hz] at HW
    rw [hz]
    clear h0 hl
    go_enter Tryz.func70, Tryz.ntmps70
    go_wp2_with fail
    go_ret
    rw [HA.out]
    exact ⟨_, rfl, ErrP.none _, JD.same H.out (Below.refl _ _)⟩
  · have hz : ¬ (recs.length : Int) = 0 := by
      have : 0 < recs.length := List.length_pos_iff.2 h0
      omega
    have hz2 : ((recs.length : Int) == 0) = false := by rw [beq_eq_false_iff_ne]; exact hz
    have H0 := Lib.hid h0
    have HL := Lib.hid hl
    clear h0 hl
    go_enter Tryz.func70, Tryz.ntmps70
    go_wp2_with fail
    refine (HW.out).mono ?_
    rintro e w1 ⟨hb1, hor⟩
    have HB1 := Lib.hid hb1
    rcases hor with ⟨hlong, v, rfl, herr⟩ | ⟨hshort, v, ys, rfl, hown, hbf⟩
    · have HA : Hid (addP J recs = (7, J)) := by unfold addP; rw [if_neg H0.out, if_pos hlong]; exact Lib.hid rfl
      have HE := Lib.hid herr
      obtain ⟨tt, u, rfl⟩ := herr.form (by decide)
      clear hlong herr hb1
      go_wp2_with fail
      go_ret
      rw [HA.out]
      exact ⟨_, rfl, HE.out, JD.same H.out HB1.out⟩
    · have hno : ¬ ∃ l ∈ recs, 16383 < l.length := fun ⟨l, h1, h2⟩ => by have := hshort l h1; omega
      have hS : (framesB 0 recs).flatten.length ≤ 16391 * recs.length := frames_le 0 recs hshort
      have hS2 : (framesB 0 recs).flatten.length ≤ 1073741824 := by have := HL.out; omega
      have HS2 := Lib.hid hS2
      have H1 := Lib.hid (H.out.below hb1)
      have HO1 := Lib.hid (HO.out.below hb1)
      obtain ⟨c0, c1, _, _⟩ := H1.out.cell
      have HPL := Lib.hid (place_any HO1.out.glob (fun hc => HO1.out.g (.inr (.inl hc))) H1.out.tp c0 c1 (heap_lt H1.out.head) hS2)
      have HNO := Lib.hid hno
      have hF1 : ∀ k, k < w1.heap.size → w.heap.size ≤ k → (fun k => w.heap.size ≤ k ∧ k < w1.heap.size) k := fun k hk hf => ⟨hf, hk⟩
      have HV := Lib.hid ((hown.vis).mono hF1)
      have HY := Lib.hid (hbf.mono (fun k hk hf => hF1 k hk hf.1))
      obtain ⟨Av, cv, rfl, _, _, _, _⟩ := hown.vis
      generalize hfr : framesB 0 recs = fr at *
      generalize hsz : fr.flatten.length = S at *
      have HSZ := Lib.hid hsz
      have HFR := Lib.hid hfr
      have HLL := Lib.hid hshort
      clear hno hS hS2 hshort hown hbf hfr hF1 hsz hb1
      go_wp2_with fail
      refine (HPL.out).mono ?_
      rintro e w2 ⟨v2, rfl, herr, hd⟩
      obtain ⟨T2, k1, k2, k3⟩ := hd
      have HE := Lib.hid herr
      have K1 := Lib.hid k1
      have K2 := Lib.hid k2
      have K3 := Lib.hid k3
      have H2 := Lib.hid (H1.out.tape k1 k2 k3)
      have HTO : Hid (Touch (JB j t T rv) w w2) := Lib.hid (Touch.ahead HB1.out (k2.mono fun k _ hk => .inr (.inl hk)))
      have hB2 : ∀ k, JB j t T2 rv k → JB j t T rv k ∨ w.heap.size ≤ k := fun k hk => by
        rcases hk with hk | hk | hk
        · exact .inl (.inl hk)
        · exact (k3 k hk).elim (fun e => .inl (.inr (.inl e))) (fun e => .inr (Nat.le_trans HB1.out.size e))
        · exact .inl (.inr (.inr hk))
      have HB2 := Lib.hid hB2
      clear k1 k2 k3 hB2 c0 c1
      generalize hpl : placeP J.p S J.seg = pl at *
      obtain ⟨seg, pe, p2⟩ := pl
      have HPE := Lib.hid hpl
      clear hpl
      by_cases he : pe = 0
      · subst he
        obtain rfl := herr.is_nil rfl
        obtain ⟨c0, _, _, _⟩ := H2.out.cell
        have hgl : 0 ∉ T2.blocks t := fun hc => by
          have hg := HO.out.g
          have := HO.out.glob.lt
          exact (HB2.out _ (.inr (.inl hc))).elim hg (fun e => by omega)
        have HAP := Lib.hid (tappend (HO.out.touch HTO.out).glob K1.out.tape hgl seg 0 (A := Av) (m := ys.length) (c := cv) (ls := fr) (by rw [HSZ.out]; exact HS2.out) (fun w' hw' => by
          have hs1 := HB1.out.size
          have f1 : ∀ k, (fun k => w.heap.size ≤ k ∧ k < w1.heap.size) k → ¬ k ∈ T.blocks t := fun k hk hc => by have := H.out.tp.tape.lt k hc; have := hk.1; omega
          have f2 : ∀ k, (fun k => w.heap.size ≤ k ∧ k < w1.heap.size) k → ¬ k ∈ T2.blocks t := fun k hk hc => (K3.out k hc).elim (f1 k hk) (fun e => by have := hk.2; omega)
          exact pis_of ((HV.out.touch K2.out f1).touch hw' f2) ((HY.out.touch K2.out f1).touch hw' f2)))
        clear herr hgl
        go_wp2_with fail
        refine (HAP.out).mono ?_
        rintro e w3 ⟨rfl, hd⟩
        rw [doS_one K1.out]
        obtain ⟨T3, m1, m2, m3⟩ := TPd.of K1.out hd
        have HAT := Lib.hid (at_j seg (doS p2 0 seg 0 fr.flatten).1 w3)
        have H3 := Lib.hid (H2.out.tape m1 m2 m3)
        have HTO3 : Hid (Touch (JB j t T rv) w w3) := Lib.hid (HTO.out.trans m2 (fun k hk hc => (HB2.out k (.inr (.inl hc))).elim id (fun e => by omega)))
        have hB3 : ∀ k, JB j t T3 rv k → JB j t T rv k ∨ w.heap.size ≤ k := fun k hk => by
          rcases hk with hk | hk | hk
          · exact .inl (.inl hk)
          · exact (m3 k hk).elim (fun e => HB2.out k (.inr (.inl e))) (fun e => .inr (Nat.le_trans HTO.out.size e))
          · exact .inl (.inr (.inr hk))
        have HB3 := Lib.hid hB3
        clear hd m1 m2 m3 hB3 c0
        generalize hds : doS p2 0 seg 0 fr.flatten = ds at *
        obtain ⟨de, p3⟩ := ds
        have HDE := Lib.hid hds
        clear hds
        go_wp2_with fail
        refine (HAT.out).mono ?_
        rintro e w4 ⟨v4, rfl, hat⟩
        have HB4 := Lib.hid hat.below
        have HE4 := Lib.hid hat.is
        by_cases hde : de = 0
        · have hv : v4 = .nilIface := by
            rcases hat with ⟨_, e, _⟩ | ⟨e, _⟩
            · exact e
            · exact absurd hde e
          subst hv
          subst hde
          have HF : Hid (addP J recs = (0, { J with p := p3, rs := J.rs ++ recs })) := Lib.hid (addP_ok H0.out HNO.out HFR.out HSZ.out HPE.out HDE.out)
          have H4 := Lib.hid (H3.out.below HB4.out)
          have HTO4 := Lib.hid (HTO3.out.after HB4.out)
          have HCP : Hid (∀ W, Below w4.heap.size w4 W → Calls Tryz.prog 73 #[.slice A recs.length c] W fun e w5 => ∃ v5, e = .returned v5 ∧ PutP w4 j t T3 { J with p := p3 } sv rv recs w5 v5 ∧ w5.cell? ⟨j, 3, none⟩ = some rv) := Lib.hid (fun W hW =>
            (copies_any ((HP.out w4 HTO4.out).below hW) (by have := HL.out; omega) (fun l hl => by have := HLL.out l hl; omega)).mono fun e w5 ⟨hb5, v5, ys5, e1, ho5, hbf5⟩ => ⟨v5, e1, put_recs H4.out hW hb5 ho5 hbf5 (by
              have h1 := HL.out
              have h2 := hJl
              show J.rs.length + recs.length ≤ 1000000
              omega), ((H4.out.below (hW.trans (hb5.mono hW.size))).cell).2.2.2⟩)
          obtain ⟨_, _, _, c3⟩ := H4.out.cell
          clear hat
          go_wp2_with fail
          go_region_law (first | (refine step_append_run hrun (by rfl) _ _ (by rfl) (by rfl) (by rfl) (by rfl) ?_) | (go_simp; go_at_call 73; refine (HCP.out _ (below_drew (Below.refl _ _))).mono ?_; rintro e w5 ⟨v5, rfl, hput, c5⟩; obtain ⟨A6, n6, c6, wa, hrun, ca, fa, hjd⟩ := hput; dsimp only))
          all_goals
            have HJD := Lib.hid (put_jd hjd)
            clear hrun ca fa c5 hjd
            go_wp2_with fail
            go_ret
            rw [HF.out]
            exact ⟨_, rfl, ErrP.none _, JD.trans HTO4.out HB3.out HJD.out⟩
        · have hv : ∃ tt u, v4 = .iface tt u := by
            rcases hat with ⟨e, _⟩ | ⟨_, e, _⟩
            · exact absurd e hde
            · exact ⟨_, _, e⟩
          obtain ⟨tt, u, rfl⟩ := hv
          have HF : Hid (addP J recs = (de, { J with p := p3 })) := Lib.hid (addP_tape H0.out HNO.out HFR.out HSZ.out HPE.out HDE.out hde)
          clear hat
          go_wp2_with fail
          go_ret
          rw [HF.out]
          exact ⟨_, rfl, HE4.out.err, JD.trans HTO3.out HB3.out (JD.same H3.out HB4.out)⟩
      · have hv := herr.form he
        obtain ⟨tt, u, rfl⟩ := hv
        have HF : Hid (addP J recs = (pe, { J with p := p2 })) := Lib.hid (addP_place H0.out HNO.out HFR.out HSZ.out HPE.out he)
        clear herr
        go_wp2_with fail
        go_ret
        rw [HF.out]
        exact ⟨_, rfl, HE.out, JD.trans HTO.out HB2.out (JD.same H2.out (Below.refl _ _))⟩
end Go.Proofs.YtnegnokielmgkaaGreatDoor

namespace Go.Proofs.YtnegnokielmgkaaGreatDoor
open Go.RowKit

def saveP (J : Js) (st : List UInt8) : Int × Js :=
  if 16383 < st.length then (7, J)
  else if (settleP J.p).2.1 ≠ 0 then ((settleP J.p).2.1, { J with p := (settleP J.p).2.2 })
  else if (startP (settleP J.p).2.2 (settleP J.p).1 (frameB (1 :: st))).1 ≠ 0 then ((startP (settleP J.p).2.2 (settleP J.p).1 (frameB (1 :: st))).1, { J with p := (doS (startP (settleP J.p).2.2 (settleP J.p).1 (frameB (1 :: st))).2 3 (settleP J.p).1 0 []).2 })
  else ((dropsP (settleP J.p).1 (numsOf (startP (settleP J.p).2.2 (settleP J.p).1 (frameB (1 :: st))).2.A) (startP (settleP J.p).2.2 (settleP J.p).1 (frameB (1 :: st))).2).1,
    { p := (dropsP (settleP J.p).1 (numsOf (startP (settleP J.p).2.2 (settleP J.p).1 (frameB (1 :: st))).2.A) (startP (settleP J.p).2.2 (settleP J.p).1 (frameB (1 :: st))).2).2, seg := J.seg, st := st, rs := [] })
section
variable {J : Js} {st : List UInt8} {next pe se de : Int} {p2 p3 p4 : Pl}
theorem saveP_settle (h0 : ¬ 16383 < st.length) (hp : settleP J.p = (next, pe, p2)) (he : ¬ pe = 0) : saveP J st = (pe, { J with p := p2 }) := by
  unfold saveP
  rw [if_neg h0, hp, if_pos he]
theorem saveP_start (h0 : ¬ 16383 < st.length) (hp : settleP J.p = (next, 0, p2)) (hs : startP p2 next (frameB (1 :: st)) = (se, p3)) (he : ¬ se = 0) : saveP J st = (se, { J with p := (doS p3 3 next 0 []).2 }) := by
  unfold saveP
  rw [if_neg h0, hp, if_neg (by simp), hs, if_pos he]
theorem saveP_ok (h0 : ¬ 16383 < st.length) (hp : settleP J.p = (next, 0, p2)) (hs : startP p2 next (frameB (1 :: st)) = (0, p3)) (hd : dropsP next (numsOf p3.A) p3 = (de, p4)) : saveP J st = (de, { p := p4, seg := J.seg, st := st, rs := [] }) := by
  unfold saveP
  rw [if_neg h0, hp, if_neg (by simp), hs, if_neg (by simp), hd]
end
theorem Ok2.step {w w' : World} {B B' : Nat → Prop} (h : Ok2 w B) (ht : Touch B w w') (hb : ∀ k, B' k → B k ∨ w.heap.size ≤ k) : Ok2 w' B' :=
  ⟨(h.touch ht).glob, (h.touch ht).mov, fun hc => (hb _ hc).elim h.g (fun e => by have := h.glob.lt; omega), fun hc => (hb _ hc).elim h.m (fun e => by have := h.mov.lt; omega)⟩
theorem jb_step {w w2 : World} {j t : Nat} {T T2 : Tp} {rv : Value} {B : Nat → Prop} (hs : w.heap.size ≤ w2.heap.size) (h0 : ∀ k, JB j t T rv k → B k ∨ w.heap.size ≤ k) (h : ∀ k ∈ T2.blocks t, k ∈ T.blocks t ∨ w2.heap.size ≤ k) : ∀ k, JB j t T2 rv k → B k ∨ w.heap.size ≤ k := fun k hk => by
  rcases hk with hk | hk | hk
  · exact h0 k (.inl hk)
  · exact (h k hk).elim (fun e => h0 k (.inr (.inl e))) (fun e => .inr (Nat.le_trans hs e))
  · exact h0 k (.inr (.inr hk))
theorem set_saved {w w5 : World} {j t : Nat} {T : Tp} {J : Js} {sv rv cv : Value} {xs : List Value} {st : List UInt8} (h : JAt w j t T J sv rv xs) (hb : Below w.heap.size w w5) (ho : OwnBy w5 w.heap.size cv st) :
    JAt ((w5.setCell ⟨j, 2, none⟩ cv).setCell ⟨j, 3, none⟩ (.slice none 0 0)) j t T { J with st := st, rs := [] } cv (.slice none 0 0) [] ∧ Touch (· = j) w5 ((w5.setCell ⟨j, 2, none⟩ cv).setCell ⟨j, 3, none⟩ (.slice none 0 0)) := by
  have h5 := h.below hb
  have hT : Touch (· = j) w5 ((w5.setCell ⟨j, 2, none⟩ cv).setCell ⟨j, 3, none⟩ (.slice none 0 0)) := ((Touch.refl (· = j) w5).setCell ⟨j, 2, none⟩ (fun _ => rfl) _).setCell ⟨j, 3, none⟩ (fun _ => rfl) _
  refine ⟨⟨?_, h5.tp.touch hT (fun k hk e => h.jt (by subst e; exact hk)), ?_, .inl ⟨rfl, rfl⟩, BFs.nil _ _, h.jt, (fun e => by cases e), (fun k e => by cases e)⟩, hT⟩
  · rw [set_at (set_at h5.head 2 cv) 3]
    rfl
  · have hjl := heap_lt h.head
    refine (ho.bf.touch hT (fun k hk e => by omega)).mono fun k _ hk hc => ?_
    rcases hc with hc | hc | hc
    · omega
    · have := h.tp.tape.lt k hc; omega
    · cases hc
set_option maxRecDepth 100000 in
set_option maxHeartbeats 4000000 in
theorem save_any {w : World} {j t : Nat} {T : Tp} {J : Js} {sv rv : Value} {xs : List Value} {A : Option Addr} {c : Nat} {st : List UInt8} (h : JAt w j t T J sv rv xs) (hO : Ok2 w (JB j t T rv)) (hP : ∀ w', Touch (JB j t T rv) w w' → BIs w' (.slice A st.length c) st) (hl : st.length ≤ 1000000) :
    Calls Tryz.prog 72 #[.pointer (some ⟨j, 0, none⟩), .slice A st.length c] w (JErr w (JB j t T rv) j t (saveP J st)) := by
  have hb0 := below_new (w := w) (.cells #[.slice A st.length c] 32)
  have H := Lib.hid (h.below hb0)
  have HO := Lib.hid (hO.below hb0)
  have HP := Lib.hid hP
  have HOO := Lib.hid hO
  have HB0 := Lib.hid hb0
  have HW := Lib.hid (wrapK_any 1 HO.out.mov (pis_one (hP w (.refl _ _))) (by simp))
  have HH := Lib.hid h
  clear h hO hP hb0
  go_enter Tryz.func72, Tryz.ntmps72
  go_wp2_with fail
  refine (HW.out).mono ?_
  rintro e w1 ⟨hb1, hor⟩
  have HB1 := Lib.hid hb1
  rcases hor with ⟨hlong, v, rfl, herr⟩ | ⟨hshort, v, ys, rfl, hown, hbf⟩
  · have HA : Hid (saveP J st = (7, J)) := by
      obtain ⟨l, hl, hll⟩ := hlong
      rw [List.mem_singleton.1 hl] at hll
      unfold saveP
      rw [if_pos hll]
      exact Lib.hid rfl
    have HE := Lib.hid herr
    obtain ⟨tt, u, rfl⟩ := herr.form (by decide)
    clear hlong herr hb1
    go_wp2_with fail
    go_ret
    rw [HA.out]
    exact ⟨_, rfl, HE.out, JD.same HH.out (HB0.out.trans (HB1.out.mono HB0.out.size))⟩
  · have hsh : ¬ 16383 < st.length := by have := hshort st (List.mem_singleton.2 rfl); omega
    have HSH := Lib.hid hsh
    have HBB := Lib.hid (HB0.out.trans (hb1.mono HB0.out.size))
    have H1 := Lib.hid (H.out.below hb1)
    have HO1 := Lib.hid (HO.out.below hb1)
    obtain ⟨c0, _, _, _⟩ := H1.out.cell
    have HPL := Lib.hid (settle_any HO1.out.glob (fun hc => HO1.out.g (.inr (.inl hc))) H1.out.tp c0 (heap_lt H1.out.head))
    have hF1 : ∀ k, k < w1.heap.size → w.heap.size ≤ k → (fun k => w.heap.size ≤ k ∧ k < w1.heap.size) k := fun k hk hf => ⟨hf, hk⟩
    have hsz0 : w.heap.size ≤ (w.alloc (.cells #[.slice A st.length c] 32)).heap.size := HB0.out.size
    have HV := Lib.hid ((hown.vis).mono (G := fun k => w.heap.size ≤ k ∧ k < w1.heap.size) (fun k hk hf => hF1 k hk (Nat.le_trans hsz0 hf)))
    have HY := Lib.hid (hbf.mono (G := fun k => w.heap.size ≤ k ∧ k < w1.heap.size) (fun k hk hf => hF1 k hk (Nat.le_trans hsz0 hf.1)))
    obtain ⟨Av, cv, rfl, _, _, _, _⟩ := hown.vis
    have hfr : (framesB 1 [st]).flatten = frameB (1 :: st) := by simp [framesB]
    have HFR := Lib.hid hfr
    have HFL : Hid ((framesB 1 [st]).flatten.length ≤ 1073741824) := by
      show _ ≤ _
      rw [hfr, frameB_len, List.length_cons]
      omega
    clear hshort hsh hown hbf hfr hF1 hb1
    go_wp2_with fail
    refine (HPL.out).mono ?_
    rintro e w2 ⟨v2, rfl, herr, hd⟩
    obtain ⟨T2, k1, k2, k3⟩ := hd
    have HE := Lib.hid herr
    have K1 := Lib.hid k1
    have K2 := Lib.hid k2
    have K3 := Lib.hid k3
    have H2 := Lib.hid (H1.out.tape k1 k2 k3)
    have HTO : Hid (Touch (JB j t T rv) w w2) := Lib.hid (Touch.ahead HBB.out (k2.mono fun k _ hk => .inr (.inl hk)))
    have hB2 : ∀ k, JB j t T2 rv k → JB j t T rv k ∨ w.heap.size ≤ k := fun k hk => by
      rcases hk with hk | hk | hk
      · exact .inl (.inl hk)
      · exact (k3 k hk).elim (fun e => .inl (.inr (.inl e))) (fun e => .inr (Nat.le_trans HBB.out.size e))
      · exact .inl (.inr (.inr hk))
    have HB2 := Lib.hid hB2
    clear k1 k2 k3 hB2 c0
    generalize hpl : settleP J.p = pl at *
    obtain ⟨next, pe, p2⟩ := pl
    have HPE := Lib.hid hpl
    clear hpl
    by_cases he : pe = 0
    · subst he
      obtain rfl := herr.is_nil rfl
      obtain ⟨c0, _, _, _⟩ := H2.out.cell
      have HO2 := Lib.hid (HOO.out.step HTO.out HB2.out)
      have HST := Lib.hid (start_any (s := next) (A := Av) (m := ys.length) (c := cv) (ls := framesB 1 [st]) HO2.out.glob (fun hc => HO2.out.g (.inr (.inl hc))) K1.out c0 H2.out.jt HFL.out (fun w' hw' => by
        have hs1 := HBB.out.size
        have f1 : ∀ k, (fun k => w.heap.size ≤ k ∧ k < w1.heap.size) k → ¬ k ∈ T.blocks t := fun k hk hc => by have := HH.out.tp.tape.lt k hc; have := hk.1; omega
        have f2 : ∀ k, (fun k => w.heap.size ≤ k ∧ k < w1.heap.size) k → ¬ k ∈ T2.blocks t := fun k hk hc => (K3.out k hc).elim (f1 k hk) (fun e => by have := hk.2; omega)
        exact pis_of ((HV.out.touch K2.out f1).touch hw' f2) ((HY.out.touch K2.out f1).touch hw' f2)))
      rw [HFR.out] at HST
      clear herr
      go_wp2_with fail
      refine (HST.out).mono ?_
      rintro e w3 ⟨v3, b3, T3, rfl, hat, hfar, m1, m2, m3⟩
      have HAT := Lib.hid hat
      have HFAR := Lib.hid hfar
      have M1 := Lib.hid m1
      have H3 := Lib.hid (H2.out.tape m1 m2 m3)
      have HTO3 : Hid (Touch (JB j t T rv) w w3) := Lib.hid (HTO.out.trans m2 (fun k hk hc => (HB2.out k (.inr (.inl hc))).elim id (fun e => by omega)))
      have HB3 := Lib.hid (jb_step HTO.out.size HB2.out m3)
      have HO3 := Lib.hid (HOO.out.step HTO3.out HB3.out)
      clear m1 m2 m3 hfar c0
      obtain ⟨c0, _, c2, c3⟩ := H3.out.cell
      generalize hss : startP p2 next (frameB (1 :: st)) = ss at *
      obtain ⟨se, p3⟩ := ss
      have HSS := Lib.hid hss
      clear hss
      by_cases hse : se = 0
      · subst hse
        have hv : v3 = .nilIface := by
          rcases hat with ⟨_, e⟩ | ⟨e, _⟩
          · exact e
          · exact absurd rfl e
        subst hv
        have HCL := Lib.hid (clone_any (HP.out w3 HTO3.out) (by omega))
        clear hat
        go_wp2_with fail
        refine (HCL.out).mono ?_
        rintro e w5 ⟨cv5, rfl, hcl, hb5⟩
        have HSV := Lib.hid (set_saved H3.out hb5 hcl)
        obtain ⟨d0, _, d2, d3⟩ := (H3.out.below hb5).cell
        have hfz := free0 (H3.out.below hb5).head
        have hf2 := hfz 2
        have hf3 := hfz 3
        obtain ⟨A5, c5, rfl, _, _, _⟩ := hcl.bis
        have hw6 : ∃ w6, w6 = (w5.setCell ⟨j, 2, none⟩ (.slice A5 st.length c5)).setCell ⟨j, 3, none⟩ (.slice none 0 0) := ⟨_, rfl⟩
        obtain ⟨w6, hw6⟩ := hw6
        rw [← hw6] at HSV
        have H6 := HSV.out.1
        obtain ⟨e0, _, _, _⟩ := H6.cell
        have HT6 := Lib.hid (Touch.ahead hb5 HSV.out.2)
        have HTO6 : Hid (Touch (JB j t T rv) w w6) := Lib.hid (HTO3.out.trans HT6.out (fun k hk hc => .inl hc))
        have HB6 : Hid (∀ k, JB j t T3 (.slice none 0 0) k → JB j t T rv k ∨ w.heap.size ≤ k) := Lib.hid (fun k hk => by
          rcases hk with hk | hk | hk
          · exact HB3.out k (.inl hk)
          · exact HB3.out k (.inr (.inl hk))
          · cases hk)
        have HO6 := Lib.hid (HOO.out.step HTO6.out HB6.out)
        have HDR := Lib.hid (drop_any next HO6.out.glob (fun hc => HO6.out.g (.inr (.inl hc))) H6.tp e0 H6.jt)
        have H6' := Lib.hid H6
        clear hcl hb5 H6 hfz
        go_wp2_with fail
        rw [← hw6]
        refine (HDR.out).mono ?_
        rintro e w7 ⟨v7, rfl, herr, hd⟩
        have HE7 := Lib.hid herr
        have HD7 := Lib.hid (H6'.out.tpd hd)
        have HF : Hid (saveP J st = _) := Lib.hid (saveP_ok HSH.out HPE.out HSS.out (de := (dropsP next (numsOf p3.A) p3).1) (p4 := (dropsP next (numsOf p3.A) p3).2) rfl)
        clear herr hd
        go_wp2_with fail
        go_ret
        rw [HF.out]
        exact ⟨_, rfl, HE7.out, JD.trans HTO6.out HB6.out HD7.out⟩
      · have hv : ∃ tt u, v3 = .iface tt u := by
          rcases hat with ⟨e, _⟩ | ⟨_, e, _⟩
          · exact absurd e hse
          · exact ⟨_, _, e⟩
        obtain ⟨tt, u, rfl⟩ := hv
        have HF : Hid (saveP J st = (se, { J with p := (doS p3 3 next 0 []).2 })) := Lib.hid (saveP_start HSH.out HPE.out HSS.out hse)
        have HDR := Lib.hid (tdrop HO3.out.glob M1.out.tape (fun hc => HO3.out.g (.inr (.inl hc))) next 0 [])
        have HSE := Lib.hid hse
        clear hat hse
        go_wp2_with fail
        refine (HDR.out).mono ?_
        rintro e w4 ⟨rfl, hd⟩
        obtain ⟨T4, n1, n2, n3⟩ := TPd.of M1.out hd
        have hbl : b3 < w3.heap.size := by
          rcases HAT.out with ⟨e, _⟩ | ⟨_, _, e, _⟩
          · exact absurd e HSE.out
          · exact e
        have HA4 := Lib.hid (HAT.out.keep n2.size (n2.block b3 hbl (HFAR.out HSE.out).1))
        have HD4 := Lib.hid (H3.out.tpd ⟨T4, n1, n2, n3⟩)
        clear hd n1 n2 n3 hbl
        go_wp2_with fail
        go_ret
        rw [HF.out]
        exact ⟨_, rfl, HA4.out.err, JD.trans HTO3.out HB3.out HD4.out⟩
    · have hv := herr.form he
      obtain ⟨tt, u, rfl⟩ := hv
      have HF : Hid (saveP J st = (pe, { J with p := p2 })) := Lib.hid (saveP_settle HSH.out HPE.out he)
      clear herr
      go_wp2_with fail
      go_ret
      rw [HF.out]
      exact ⟨_, rfl, HE.out, JD.trans HTO.out HB2.out (JD.same H2.out (Below.refl _ _))⟩
end Go.Proofs.YtnegnokielmgkaaGreatDoor
