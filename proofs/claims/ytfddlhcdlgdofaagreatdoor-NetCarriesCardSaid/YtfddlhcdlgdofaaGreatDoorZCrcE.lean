/- crc.Wrap of any parts. -/
import Derived.Test.YtfddlhcdlgdofaaGreatDoorZCrcD
set_option linter.unusedSimpArgs false
set_option linter.unusedVariables false
set_option linter.unnecessarySimpa false
namespace Go.Proofs.YtfddlhcdlgdofaaGreatDoor
open Go.RowKit

theorem made_at (n j : Nat) (hj : j < n) : (madeCells (Value.cells (.int .u8 0)) n)[j]? = some (.int .u8 0) := by
  unfold madeCells
  rw [Array.getElem?_map]
  simp [hj, Value.cells, Nat.mod_one]
theorem rep_at (n i : Nat) (b : UInt8) (h : (List.replicate n (0 : UInt8))[i]? = some b) : b = 0 ∧ i < n := by
  rw [List.getElem?_replicate] at h
  split at h
  · exact ⟨(Option.some.inj h).symm, by assumption⟩
  · cases h
/-- make([]byte, n, c): bytes 0 of one's own. -/
theorem wpList_make_by (w : World) {ops : Array Oper} {rest : List Oper} {o : Oper} {a : Act} {Q : Exit → Act → World → Prop} (hg : o.guard = none) (l c : Operand) (hop : o.op = Op.makeSlice 54 l c)
    (base n m : Nat) (L C : Int) (hl : a.eval l = .int .i64 L) (hc : a.eval c = .int .i64 C) (hL : L = (n : Int)) (hC : C = (m : Int)) (hnm : n ≤ m) (hm : m ≤ 1073741824) (hb : base ≤ w.heap.size)
    (hK : ∀ w', OwnBy w' base (.slice (some ⟨w.heap.size, 0, none⟩) n m) (List.replicate n 0) → Below w.heap.size w w' → wpList Tryz.prog ops Q rest (a.put o.dst (.slice (some ⟨w.heap.size, 0, none⟩) n m)) w') :
    wpList Tryz.prog ops Q (o :: rest) a w := by
  refine wpList_plain hg fun K hK' => ?_
  obtain ⟨i0, hi, hz0, hz1, hz2⟩ := info_parts info5
  have hrun := run_make (P := Tryz.prog) w 54 5 i0 _ Tryz.underlying54 hi hz0 .i64 .i64 (n : Int) (m : Int) (by omega) (by omega) (by rw [hz2]; omega) (by omega)
  subst hL
  subst hC
  unfold Oper.wp
  rw [hz1, Int.toNat_natCast, Int.toNat_natCast, Nat.mul_one] at hrun
  simp [execOp, hop, hl, hc, hrun, Result.andThen]
  refine hK' _ _ (hK _ ?_ ((Below.refl _ _).alloc (Nat.le_refl _) _))
  have hblk := heap_alloc_new w (.cells (madeCells (Value.cells (.int .u8 0)) m) 5)
  refine .inr ⟨w.heap.size, m, by rw [List.length_replicate], hb, by show w.heap.size < (w.heap.push _).size; rw [Array.size_push]; omega, by rw [List.length_replicate]; exact hnm, by unfold maxLen; omega, fun j b hj => ?_, fun j hj => ⟨?_, free0 hblk j⟩⟩
  · obtain ⟨rfl, hj⟩ := rep_at n j b hj
    rw [cell_of_row _ _ _ _ _ _ hblk, made_at m j (by omega)]; rfl
  · rw [cell_of_row _ _ _ _ _ _ hblk, made_at m j hj]; rfl
/-- A block of bytes that is laid anew. -/
theorem new_bytes (w : World) (l : List UInt8) (hl : l.length ≤ 1073741824) : BIs (w.alloc (.cells (bc l).toArray 5)) (.slice (some ⟨w.heap.size, 0, none⟩) l.length l.length) l := by
  refine ⟨_, _, rfl, Nat.le_refl _, by unfold maxLen; omega, fun i b hi => ⟨_, rfl, by show w.heap.size < (w.heap.push _).size; rw [Array.size_push]; omega, ?_⟩⟩
  rw [add0, cell_of_row _ _ _ _ _ _ (heap_alloc_new w _)]
  simpa using bc_some hi
theorem flat_take {ls : List (List UInt8)} {k : Nat} (hk : k < ls.length) : (ls.take (k + 1)).flatten = (ls.take k).flatten ++ ls[k] := by
  rw [List.take_succ_eq_append_getElem hk, List.flatten_append]; simp
theorem flat_le {ls : List (List UInt8)} (k : Nat) : (ls.take k).flatten.length ≤ ls.flatten.length := by
  have : ls.flatten = (ls.take k).flatten ++ (ls.drop k).flatten := by rw [← List.flatten_append, List.take_append_drop]
  rw [this, List.length_append]; omega

theorem OwnBy.rows {w : World} {base : Nat} {v : Value} {l : List UInt8} (h : OwnBy w base v l) : ∀ k, v.ownBlock = some k → base ≤ k := by
  intro k hk
  rcases h with ⟨rfl, _⟩ | ⟨g, cap, rfl, h⟩
  · simp [Value.ownBlock] at hk
  · have : g = k := by simpa [Value.ownBlock] using hk
    subst this
    exact h.new
theorem new_word (W : World) (S : Nat) (hS : S < 4294967296) : Src Tryz.prog 1 54 (.slice (some ⟨W.heap.size, 0, none⟩) 4 4) (be4 S).length (bc (be4 S)) (W.alloc (.cells #[.int .u8 ((S : Int) / 16777216), .int .u8 ((S : Int) / 65536 % 256), .int .u8 ((S : Int) / 256 % 256), .int .u8 ((S : Int) % 256)] 5)) := by
  have := (new_bytes W (be4 S) (by simp [be4])).src
  have hcells : (bc (be4 S)).toArray = #[.int .u8 ((S : Int) / 16777216), .int .u8 ((S : Int) / 65536 % 256), .int .u8 ((S : Int) / 256 % 256), .int .u8 ((S : Int) % 256)] := by
    have e1 : (((S / 16777216).toUInt8.toNat : Nat) : Int) = (S : Int) / 16777216 := by rw [u8_mod]; omega
    have e2 : (((S / 65536).toUInt8.toNat : Nat) : Int) = (S : Int) / 65536 % 256 := by rw [u8_mod]; omega
    have e3 : (((S / 256).toUInt8.toNat : Nat) : Int) = (S : Int) / 256 % 256 := by rw [u8_mod]; omega
    have e4 : ((S.toUInt8.toNat : Nat) : Int) = (S : Int) % 256 := by rw [u8_mod]; omega
    simp only [bc, be4, List.map_cons, List.map_nil, e1, e2, e3, e4]
  rw [hcells] at this
  exact this
def tot (ls : List (List UInt8)) (k : Nat) : Nat := (ls.take k).flatten.length

set_option maxRecDepth 100000 in
set_option maxHeartbeats 4000000 in
theorem wrap_any {w : World} {v : Value} {ls : List (List UInt8)} (hM : Mov w) (h : PIs w v ls) (hl : ls.flatten.length ≤ 1073741824) :
    Calls Tryz.prog 142 #[v] w fun e w' => ∃ x, e = .returned x ∧ (16384 < ls.flatten.length → x = .slice none 0 0) ∧ (ls.flatten.length ≤ 16384 → OwnBy w' w.heap.size x (frameB ls.flatten)) ∧ Below w.heap.size w w' := by
  have HP := Lib.hid h
  obtain ⟨A, cap, rfl, h1, h2, h3⟩ := h
  unfold maxLen at h2
  have H3 := Lib.hid h3
  have HM := Lib.hid hM
  have h2' : ls.length ≤ 9223372036854775807 := by omega
  have HL := Lib.hid hl
  clear h3 hM hl
  go_enter Tryz.func142, Tryz.ntmps142
  go_wp2_with fail
  go_loopw [3, 12] (fun s i wr => ∃ k : Nat, k ≤ ls.length ∧ i = .int .i64 k ∧ s = .int .i64 (tot ls k : Nat) ∧ w = wr) (fun _ i _ => ls.length - (intOf i).toNat)
  case atStart => exact ⟨0, by omega, rfl, rfl, rfl⟩
  case round =>
    obtain ⟨k, hk, rfl, rfl, rfl⟩ := hrel
    by_cases hlt : k < ls.length
    · obtain ⟨a, x, rfl, hab, hcx, hB⟩ := H3.out k ls[k] (List.getElem?_eq_getElem hlt)
      obtain ⟨B, cx, rfl, g1, g2, g3⟩ := hB
      have e1 := flat_take hlt
      have e2 : tot ls (k + 1) ≤ ls.flatten.length := flat_le (ls := ls) (k + 1)
      have e3 := HL.out
      have HE : Hid ((tot ls (k + 1) : Int) = (tot ls k : Int) + (ls[k].length : Int)) := by
        show _ = _
        unfold tot
        rw [e1, List.length_append]; omega
      have q1 : (tot ls k : Int) + (ls[k].length : Int) ≤ 1073741824 := by have := HE.out; omega
      clear e1 e2 e3 g3
      go_wp2_with fail
      go_roundw
      case rel => exact ⟨k + 1, by omega, by go_num, by rw [HE.out], by first | rfl | trivial⟩
      case measure => simp [intOf]; omega
    · obtain rfl : k = ls.length := by omega
      have hT : ls.flatten.length = tot ls ls.length := by unfold tot; rw [List.take_length]
      rw [hT] at HL
      generalize tot ls ls.length = T at *
      have HT := Lib.hid hT
      clear hT
      have hT30 : (T : Int) ≤ 1073741824 := by have := HL.out; omega
      by_cases hbig : (16384 : Int) < (T : Int)
      · go_wp2_with fail
        go_ret
        exact ⟨_, rfl, fun _ => rfl, fun h => by have := HT.out; omega, Below.refl _ _⟩
      · go_wp2_with (at_make; refine wpList_make_by _ rfl _ _ rfl w.heap.size 0 (T + 7) _ _ rfl rfl ?_ ?_ ?_ ?_ ?_ ?_)
        · omega
        · omega
        intro w1 hown hb
        have HO := Lib.hid hown
        have HB := Lib.hid hb
        clear hown hb
        have hW2 : Below w1.heap.size w1 (w1.alloc (.cells #[.int .u8 167, .int .u8 ((T : Int) / 256), .int .u8 ((T : Int) % 256)] 5)) := (Below.refl _ _).alloc (Nat.le_refl _) _
        have hcells : (bc (headB T)).toArray = #[.int .u8 167, .int .u8 ((T : Int) / 256), .int .u8 ((T : Int) % 256)] := by
          have e1 : (((T / 256).toUInt8.toNat : Nat) : Int) = (T : Int) / 256 := by rw [u8_mod]; omega
          have e2 : ((T.toUInt8.toNat : Nat) : Int) = (T : Int) % 256 := by rw [u8_mod]; omega
          simp only [bc, headB, List.map_cons, List.map_nil, e1, e2]
          rfl
        have src0 : Hid (Src Tryz.prog 1 54 (.slice (some ⟨w1.heap.size, 0, none⟩) 3 3) (headB T).length (bc (headB T)) (w1.alloc (.cells #[.int .u8 167, .int .u8 ((T : Int) / 256), .int .u8 ((T : Int) % 256)] 5))) := by
          have := (new_bytes w1 (headB T) (by simp [headB])).src
          rw [hcells] at this
          exact this
        have HO2 := Lib.hid (HO.out.below hW2)
        have HB2 := Lib.hid (HB.out.trans (hW2.mono HB.out.size))
        clear hcells hW2
        go_wp2_with (at_builtin; refine wpList_append_by _ rfl _ _ 54 rfl w.heap.size [] (headB T) _ _ rfl rfl HO2.out src0.out ?_ ?_ ?_)
        · simp [headB]
        · exact HB2.out.size
        intro v' w' hown hg
        have HO3 := Lib.hid hown
        have HB3 := Lib.hid (HB2.out.grown hg HB2.out.size HO2.out.rows)
        clear hown hg
        go_wp2_with fail
        go_loopw [6, 37] (fun f i wr => ∃ k : Nat, k ≤ ls.length ∧ i = .int .i64 k ∧ OwnBy wr w.heap.size f (headB T ++ (ls.take k).flatten) ∧ Below w.heap.size w wr) (fun _ i _ => ls.length - (intOf i).toNat)
        case atStart => exact ⟨0, by omega, rfl, by simpa using HO3.out, HB3.out⟩
        case round =>
          obtain ⟨k, hk, rfl, hown, hb⟩ := hrel
          by_cases hlt : k < ls.length
          · obtain ⟨a, x, rfl, hab, hcx, hB⟩ := H3.out k ls[k] (List.getElem?_eq_getElem hlt)
            have hcx2 := (hb.cell (by rw [add_block]; exact hab)).trans hcx
            have src := Lib.hid (hB.below hb).src
            have e1 := flat_take hlt
            have HX : Hid (headB T ++ (ls.take (k + 1)).flatten = headB T ++ (ls.take k).flatten ++ ls[k]) := by
              show _ = _
              rw [e1, List.append_assoc]
            have hlen : Hid ((headB T ++ (ls.take k).flatten).length + ls[k].length ≤ 1073741824) := by
              have e2 := flat_le (ls := ls) (k + 1)
              have e3 := HT.out
              rw [e1, List.length_append] at e2
              show _ ≤ _
              rw [List.length_append]
              have : (headB T).length = 3 := rfl
              omega
            have HO := Lib.hid hown
            have HB := Lib.hid hb
            obtain ⟨Ax, cx, rfl, g1, g2, g3⟩ := hB
            clear hown hb e1 g3 hcx
            generalize ls[k] = l at *
            go_wp2_with (at_builtin; refine wpList_append_by _ rfl _ _ 54 rfl w.heap.size (headB T ++ (ls.take k).flatten) l _ _ rfl rfl HO.out src.out hlen.out HB.out.size ?_)
            intro v' w' hown hg
            have HO' := Lib.hid hown
            have HB' := Lib.hid (HB.out.grown hg HB.out.size HO.out.rows)
            clear hown hg
            go_wp2
            go_roundw
            case rel => exact ⟨k + 1, by omega, by go_num, by rw [HX.out]; exact HO'.out, HB'.out⟩
            case measure => simp [intOf]; omega
          · obtain rfl : k = ls.length := by omega
            rw [List.take_length] at hown
            have hpre : headB T ++ ls.flatten = preB ls.flatten := by unfold preB; rw [HT.out]
            rw [hpre] at hown
            have HPL : Hid ((preB ls.flatten).length = T + 3) := by
              show _ = _
              rw [preB_len, HT.out]
            have HFR : Hid (preB ls.flatten ++ be4 (sumB (preB ls.flatten)) = frameB ls.flatten) := rfl
            generalize preB ls.flatten = F at *
            have HO := Lib.hid hown
            have HB := Lib.hid hb
            obtain ⟨A6, c6, rfl, g1, g2, g3⟩ := hown.bis
            rename_i wr
            have hAl : Below wr.heap.size wr (wr.alloc (.cells #[.slice A6 F.length c6] 54)) := (Below.refl _ _).alloc (Nat.le_refl _) _
            have HSUM := Lib.hid (sum_any (w := wr.alloc (.cells #[.slice A6 F.length c6] 54)) (v := .slice (some ⟨wr.heap.size, 0, none⟩) 1 1) (ls := [F]) (HM.out.below (HB.out.trans (hAl.mono HB.out.size)))
              ⟨some ⟨wr.heap.size, 0, none⟩, 1, rfl, Nat.le_refl _, by unfold maxLen; omega, fun i x hi => by
                match i with
                | 0 =>
                  obtain rfl : F = x := by simpa using hi
                  refine ⟨_, .slice A6 F.length c6, rfl, ?_, ?_, HO.out.bis.below hAl⟩
                  · show wr.heap.size < (wr.heap.push _).size
                    rw [Array.size_push]; omega
                  · exact cell_of_row _ _ 0 _ _ _ (heap_alloc_new wr (.cells #[.slice A6 F.length c6] 54))
                | i + 1 => simp at hi⟩)
            rw [List.flatten_cons, List.flatten_nil, List.append_nil] at HSUM
            have hS := sumB_lt F
            generalize sumB F = S at *
            have hS' : (S : Int) < 4294967296 := by omega
            have HAl := Lib.hid (HB.out.trans (hAl.mono HB.out.size))
            have HOA := Lib.hid (HO.out.below hAl)
            have HS := Lib.hid hS
            clear g3 hown hb hAl hS
            go_wp2_with fail
            refine (HSUM.out).mono ?_
            rintro e w2 ⟨rfl, hw2⟩
            rw [hw2] at HOA HAl
            clear hw2
            have SRC := Lib.hid (new_word w2 S HS.out)
            have hA2 : Below w2.heap.size w2 (w2.alloc (.cells #[.int .u8 ((S : Int) / 16777216), .int .u8 ((S : Int) / 65536 % 256), .int .u8 ((S : Int) / 256 % 256), .int .u8 ((S : Int) % 256)] 5)) := (Below.refl _ _).alloc (Nat.le_refl _) _
            have HOB := Lib.hid (HOA.out.below hA2)
            have HAB := Lib.hid (HAl.out.trans (hA2.mono HAl.out.size))
            clear hA2
            go_wp2_with (at_builtin; refine wpList_append_by _ rfl _ _ 54 rfl w.heap.size F (be4 S) _ _ rfl rfl HOB.out SRC.out ?_ HAB.out.size ?_)
            · rw [HPL.out]
              have : (be4 S).length = 4 := rfl
              have := HL.out
              omega
            intro v' w' hown hg
            have HO' := Lib.hid hown
            have HB' := Lib.hid (HAB.out.grown hg HAB.out.size HOB.out.rows)
            clear hown hg
            go_wp2
            go_ret
            exact ⟨_, rfl, fun h => by have := HT.out; omega, fun _ => by rw [← HFR.out]; exact HO'.out, HB'.out⟩
end Go.Proofs.YtfddlhcdlgdofaaGreatDoor
