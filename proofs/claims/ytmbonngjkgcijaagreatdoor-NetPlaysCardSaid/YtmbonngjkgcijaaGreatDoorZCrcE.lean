/- crc.Wrap of any parts. The reference's Wrap and Peel. The chapter's example (awake); crc.All. Contracts of errors.Unwrap, fault.next, fault.Depth and fault.ends at every chain of faults that lies in memory. Closed facts on the model entries for internal/reflectlite at the four kinds of faults. -/
import Derived.Test.YtmbonngjkgcijaaGreatDoorZCrcA
import Derived.Laws.IdiomStrings
import Derived.Lib.SmallJoins
import Derived.Test.YtmbonngjkgcijaaGreatDoorProg
import Derived.Test.YtmbonngjkgcijaaGreatDoorZBasA
import Derived.WalkKit
import Derived.WalkSpells
import Derived.WalkLawsBesides
import Derived.Stop.Asserts
import Derived.Defers
import Derived.Recover
import Derived.Lib.Hide
import Derived.LaidEql
import Derived.RowKitTokens
set_option linter.unusedSimpArgs false
set_option linter.unusedVariables false
set_option linter.unnecessarySimpa false
namespace Go.Proofs.YtmbonngjkgcijaaGreatDoor
open Go.RowKit

theorem made_at (n j : Nat) (hj : j < n) : (madeCells (Value.cells (.int .u8 0)) n)[j]? = some (.int .u8 0) := by
  unfold madeCells
  rw [Array.getElem?_map]
  simp [hj, Value.cells, Nat.mod_one]
theorem rep_at (n i : Nat) (b : UInt8) (h : (List.replicate n (0 : UInt8))[i]? = some b) : b = 0 ∧ i < n := by
  rw [List.getElem?_replicate] at h
  split at h
  · exact ⟨(Option.some.inj h).symm, by assumption⟩
  · cases h
/-- make([]byte, n, c): bytes 0 of one's own. -/
theorem wpList_make_by (w : World) {ops : Array Oper} {rest : List Oper} {o : Oper} {a : Act} {Q : Exit → Act → World → Prop} (hg : o.guard = none) (l c : Operand) (hop : o.op = Op.makeSlice 54 l c)
    (base n m : Nat) (L C : Int) (hl : a.eval l = .int .i64 L) (hc : a.eval c = .int .i64 C) (hL : L = (n : Int)) (hC : C = (m : Int)) (hnm : n ≤ m) (hm : m ≤ 1073741824) (hb : base ≤ w.heap.size)
    (hK : ∀ w', OwnBy w' base (.slice (some ⟨w.heap.size, 0, none⟩) n m) (List.replicate n 0) → Below w.heap.size w w' → wpList Tryz.prog ops Q rest (a.put o.dst (.slice (some ⟨w.heap.size, 0, none⟩) n m)) w') :
    wpList Tryz.prog ops Q (o :: rest) a w := by
  refine wpList_plain hg fun K hK' => ?_
  obtain ⟨i0, hi, hz0, hz1, hz2⟩ := info_parts info5
  have hrun := run_make (P := Tryz.prog) w 54 5 i0 _ Tryz.underlying54 hi hz0 .i64 .i64 (n : Int) (m : Int) (by omega) (by omega) (by rw [hz2]; omega) (by omega)
  subst hL
  subst hC
  unfold Oper.wp
  rw [hz1, Int.toNat_natCast, Int.toNat_natCast, Nat.mul_one] at hrun
  simp [execOp, hop, hl, hc, hrun, Result.andThen]
  refine hK' _ _ (hK _ ?_ ((Below.refl _ _).alloc (Nat.le_refl _) _))
  have hblk := heap_alloc_new w (.cells (madeCells (Value.cells (.int .u8 0)) m) 5)
  refine .inr ⟨w.heap.size, m, by rw [List.length_replicate], hb, by show w.heap.size < (w.heap.push _).size; rw [Array.size_push]; omega, by rw [List.length_replicate]; exact hnm, by unfold maxLen; omega, fun j b hj => ?_, fun j hj => ⟨?_, free0 hblk j⟩⟩
  · obtain ⟨rfl, hj⟩ := rep_at n j b hj
    rw [cell_of_row _ _ _ _ _ _ hblk, made_at m j (by omega)]; rfl
  · rw [cell_of_row _ _ _ _ _ _ hblk, made_at m j hj]; rfl
/-- A block of bytes that is laid anew. -/
theorem new_bytes (w : World) (l : List UInt8) (hl : l.length ≤ 1073741824) : BIs (w.alloc (.cells (bc l).toArray 5)) (.slice (some ⟨w.heap.size, 0, none⟩) l.length l.length) l := by
  refine ⟨_, _, rfl, Nat.le_refl _, by unfold maxLen; omega, fun i b hi => ⟨_, rfl, by show w.heap.size < (w.heap.push _).size; rw [Array.size_push]; omega, ?_⟩⟩
  rw [add0, cell_of_row _ _ _ _ _ _ (heap_alloc_new w _)]
  simpa using bc_some hi
theorem flat_take {ls : List (List UInt8)} {k : Nat} (hk : k < ls.length) : (ls.take (k + 1)).flatten = (ls.take k).flatten ++ ls[k] := by
  rw [List.take_succ_eq_append_getElem hk, List.flatten_append]; simp
theorem flat_le {ls : List (List UInt8)} (k : Nat) : (ls.take k).flatten.length ≤ ls.flatten.length := by
  have : ls.flatten = (ls.take k).flatten ++ (ls.drop k).flatten := by rw [← List.flatten_append, List.take_append_drop]
  rw [this, List.length_append]; omega

theorem OwnBy.rows {w : World} {base : Nat} {v : Value} {l : List UInt8} (h : OwnBy w base v l) : ∀ k, v.ownBlock = some k → base ≤ k := by
  intro k hk
  rcases h with ⟨rfl, _⟩ | ⟨g, cap, rfl, h⟩
  · simp [Value.ownBlock] at hk
  · have : g = k := by simpa [Value.ownBlock] using hk
    subst this
    exact h.new
theorem new_word (W : World) (S : Nat) (hS : S < 4294967296) : Src Tryz.prog 1 54 (.slice (some ⟨W.heap.size, 0, none⟩) 4 4) (be4 S).length (bc (be4 S)) (W.alloc (.cells #[.int .u8 ((S : Int) / 16777216), .int .u8 ((S : Int) / 65536 % 256), .int .u8 ((S : Int) / 256 % 256), .int .u8 ((S : Int) % 256)] 5)) := by
  have := (new_bytes W (be4 S) (by simp [be4])).src
  have hcells : (bc (be4 S)).toArray = #[.int .u8 ((S : Int) / 16777216), .int .u8 ((S : Int) / 65536 % 256), .int .u8 ((S : Int) / 256 % 256), .int .u8 ((S : Int) % 256)] := by
    have e1 : (((S / 16777216).toUInt8.toNat : Nat) : Int) = (S : Int) / 16777216 := by rw [u8_mod]; omega
    have e2 : (((S / 65536).toUInt8.toNat : Nat) : Int) = (S : Int) / 65536 % 256 := by rw [u8_mod]; omega
    have e3 : (((S / 256).toUInt8.toNat : Nat) : Int) = (S : Int) / 256 % 256 := by rw [u8_mod]; omega
    have e4 : ((S.toUInt8.toNat : Nat) : Int) = (S : Int) % 256 := by rw [u8_mod]; omega
    simp only [bc, be4, List.map_cons, List.map_nil, e1, e2, e3, e4]
  rw [hcells] at this
  exact this
def tot (ls : List (List UInt8)) (k : Nat) : Nat := (ls.take k).flatten.length

set_option maxRecDepth 100000 in
set_option maxHeartbeats 4000000 in
theorem wrap_any {w : World} {v : Value} {ls : List (List UInt8)} (hM : Mov w) (h : PIs w v ls) (hl : ls.flatten.length ≤ 1073741824) :
    Calls Tryz.prog 142 #[v] w fun e w' => ∃ x, e = .returned x ∧ (16384 < ls.flatten.length → x = .slice none 0 0) ∧ (ls.flatten.length ≤ 16384 → OwnBy w' w.heap.size x (frameB ls.flatten)) ∧ Below w.heap.size w w' := by
  have HP := Lib.hid h
  obtain ⟨A, cap, rfl, h1, h2, h3⟩ := h
  unfold maxLen at h2
  have H3 := Lib.hid h3
  have HM := Lib.hid hM
  have h2' : ls.length ≤ 9223372036854775807 := by omega
  have HL := Lib.hid hl
  clear h3 hM hl
  go_enter Tryz.func142, Tryz.ntmps142
  go_wp2_with fail
  go_loopw [3, 12] (fun s i wr => ∃ k : Nat, k ≤ ls.length ∧ i = .int .i64 k ∧ s = .int .i64 (tot ls k : Nat) ∧ w = wr) (fun _ i _ => ls.length - (intOf i).toNat)
  case atStart => exact ⟨0, by omega, rfl, rfl, rfl⟩
  case round =>
    obtain ⟨k, hk, rfl, rfl, rfl⟩ := hrel
    by_cases hlt : k < ls.length
    · obtain ⟨a, x, rfl, hab, hcx, hB⟩ := H3.out k ls[k] (List.getElem?_eq_getElem hlt)
      obtain ⟨B, cx, rfl, g1, g2, g3⟩ := hB
      have e1 := flat_take hlt
      have e2 : tot ls (k + 1) ≤ ls.flatten.length := flat_le (ls := ls) (k + 1)
      have e3 := HL.out
      have HE : Hid ((tot ls (k + 1) : Int) = (tot ls k : Int) + (ls[k].length : Int)) := by
        show _ = _
        unfold tot
        rw [e1, List.length_append]; omega
      have q1 : (tot ls k : Int) + (ls[k].length : Int) ≤ 1073741824 := by have := HE.out; omega
      clear e1 e2 e3 g3
      go_wp2_with fail
      go_roundw
      case rel => exact ⟨k + 1, by omega, by go_num, by rw [HE.out], by first | rfl | trivial⟩
      case measure => simp [intOf]; omega
    · obtain rfl : k = ls.length := by omega
      have hT : ls.flatten.length = tot ls ls.length := by unfold tot; rw [List.take_length]
      rw [hT] at HL
      generalize tot ls ls.length = T at *
      have HT := Lib.hid hT
      clear hT
      have hT30 : (T : Int) ≤ 1073741824 := by have := HL.out; omega
      by_cases hbig : (16384 : Int) < (T : Int)
      · go_wp2_with fail
        go_ret
        exact ⟨_, rfl, fun _ => rfl, fun h => by have := HT.out; omega, Below.refl _ _⟩
      · go_wp2_with (at_make; refine wpList_make_by _ rfl _ _ rfl w.heap.size 0 (T + 7) _ _ rfl rfl ?_ ?_ ?_ ?_ ?_ ?_)
        · omega
        · omega
        intro w1 hown hb
        have HO := Lib.hid hown
        have HB := Lib.hid hb
        clear hown hb
        have hW2 : Below w1.heap.size w1 (w1.alloc (.cells #[.int .u8 167, .int .u8 ((T : Int) / 256), .int .u8 ((T : Int) % 256)] 5)) := (Below.refl _ _).alloc (Nat.le_refl _) _
        have hcells : (bc (headB T)).toArray = #[.int .u8 167, .int .u8 ((T : Int) / 256), .int .u8 ((T : Int) % 256)] := by
          have e1 : (((T / 256).toUInt8.toNat : Nat) : Int) = (T : Int) / 256 := by rw [u8_mod]; omega
          have e2 : ((T.toUInt8.toNat : Nat) : Int) = (T : Int) % 256 := by rw [u8_mod]; omega
          simp only [bc, headB, List.map_cons, List.map_nil, e1, e2]
          rfl
        have src0 : Hid (Src Tryz.prog 1 54 (.slice (some ⟨w1.heap.size, 0, none⟩) 3 3) (headB T).length (bc (headB T)) (w1.alloc (.cells #[.int .u8 167, .int .u8 ((T : Int) / 256), .int .u8 ((T : Int) % 256)] 5))) := by
          have := (new_bytes w1 (headB T) (by simp [headB])).src
          rw [hcells] at this
          exact this
        have HO2 := Lib.hid (HO.out.below hW2)
        have HB2 := Lib.hid (HB.out.trans (hW2.mono HB.out.size))
        clear hcells hW2
        go_wp2_with (at_builtin; refine wpList_append_by _ rfl _ _ 54 rfl w.heap.size [] (headB T) _ _ rfl rfl HO2.out src0.out ?_ ?_ ?_)
        · simp [headB]
        · exact HB2.out.size
        intro v' w' hown hg
        have HO3 := Lib.hid hown
        have HB3 := Lib.hid (HB2.out.grown hg HB2.out.size HO2.out.rows)
        clear hown hg
        go_wp2_with fail
        go_loopw [6, 37] (fun f i wr => ∃ k : Nat, k ≤ ls.length ∧ i = .int .i64 k ∧ OwnBy wr w.heap.size f (headB T ++ (ls.take k).flatten) ∧ Below w.heap.size w wr) (fun _ i _ => ls.length - (intOf i).toNat)
        case atStart => exact ⟨0, by omega, rfl, by simpa using HO3.out, HB3.out⟩
        case round =>
          obtain ⟨k, hk, rfl, hown, hb⟩ := hrel
          by_cases hlt : k < ls.length
          · obtain ⟨a, x, rfl, hab, hcx, hB⟩ := H3.out k ls[k] (List.getElem?_eq_getElem hlt)
            have hcx2 := (hb.cell (by rw [add_block]; exact hab)).trans hcx
            have src := Lib.hid (hB.below hb).src
            have e1 := flat_take hlt
            have HX : Hid (headB T ++ (ls.take (k + 1)).flatten = headB T ++ (ls.take k).flatten ++ ls[k]) := by
              show _ = _
              rw [e1, List.append_assoc]
            have hlen : Hid ((headB T ++ (ls.take k).flatten).length + ls[k].length ≤ 1073741824) := by
              have e2 := flat_le (ls := ls) (k + 1)
              have e3 := HT.out
              rw [e1, List.length_append] at e2
              show _ ≤ _
              rw [List.length_append]
              have : (headB T).length = 3 := rfl
              omega
            have HO := Lib.hid hown
            have HB := Lib.hid hb
            obtain ⟨Ax, cx, rfl, g1, g2, g3⟩ := hB
            clear hown hb e1 g3 hcx
            generalize ls[k] = l at *
            go_wp2_with (at_builtin; refine wpList_append_by _ rfl _ _ 54 rfl w.heap.size (headB T ++ (ls.take k).flatten) l _ _ rfl rfl HO.out src.out hlen.out HB.out.size ?_)
            intro v' w' hown hg
            have HO' := Lib.hid hown
            have HB' := Lib.hid (HB.out.grown hg HB.out.size HO.out.rows)
            clear hown hg
            go_wp2
            go_roundw
            case rel => exact ⟨k + 1, by omega, by go_num, by rw [HX.out]; exact HO'.out, HB'.out⟩
            case measure => simp [intOf]; omega
          · obtain rfl : k = ls.length := by omega
            rw [List.take_length] at hown
            have hpre : headB T ++ ls.flatten = preB ls.flatten := by unfold preB; rw [HT.out]
            rw [hpre] at hown
            have HPL : Hid ((preB ls.flatten).length = T + 3) := by
              show _ = _
              rw [preB_len, HT.out]
            have HFR : Hid (preB ls.flatten ++ be4 (sumB (preB ls.flatten)) = frameB ls.flatten) := rfl
            generalize preB ls.flatten = F at *
            have HO := Lib.hid hown
            have HB := Lib.hid hb
            obtain ⟨A6, c6, rfl, g1, g2, g3⟩ := hown.bis
            rename_i wr
            have hAl : Below wr.heap.size wr (wr.alloc (.cells #[.slice A6 F.length c6] 54)) := (Below.refl _ _).alloc (Nat.le_refl _) _
            have HSUM := Lib.hid (sum_any (w := wr.alloc (.cells #[.slice A6 F.length c6] 54)) (v := .slice (some ⟨wr.heap.size, 0, none⟩) 1 1) (ls := [F]) (HM.out.below (HB.out.trans (hAl.mono HB.out.size)))
              ⟨some ⟨wr.heap.size, 0, none⟩, 1, rfl, Nat.le_refl _, by unfold maxLen; omega, fun i x hi => by
                match i with
                | 0 =>
                  obtain rfl : F = x := by simpa using hi
                  refine ⟨_, .slice A6 F.length c6, rfl, ?_, ?_, HO.out.bis.below hAl⟩
                  · show wr.heap.size < (wr.heap.push _).size
                    rw [Array.size_push]; omega
                  · exact cell_of_row _ _ 0 _ _ _ (heap_alloc_new wr (.cells #[.slice A6 F.length c6] 54))
                | i + 1 => simp at hi⟩)
            rw [List.flatten_cons, List.flatten_nil, List.append_nil] at HSUM
            have hS := sumB_lt F
            generalize sumB F = S at *
            have hS' : (S : Int) < 4294967296 := by omega
            have HAl := Lib.hid (HB.out.trans (hAl.mono HB.out.size))
            have HOA := Lib.hid (HO.out.below hAl)
            have HS := Lib.hid hS
            clear g3 hown hb hAl hS
            go_wp2_with fail
            refine (HSUM.out).mono ?_
            rintro e w2 ⟨rfl, hw2⟩
            rw [hw2] at HOA HAl
            clear hw2
            have SRC := Lib.hid (new_word w2 S HS.out)
            have hA2 : Below w2.heap.size w2 (w2.alloc (.cells #[.int .u8 ((S : Int) / 16777216), .int .u8 ((S : Int) / 65536 % 256), .int .u8 ((S : Int) / 256 % 256), .int .u8 ((S : Int) % 256)] 5)) := (Below.refl _ _).alloc (Nat.le_refl _) _
            have HOB := Lib.hid (HOA.out.below hA2)
            have HAB := Lib.hid (HAl.out.trans (hA2.mono HAl.out.size))
            clear hA2
            go_wp2_with (at_builtin; refine wpList_append_by _ rfl _ _ 54 rfl w.heap.size F (be4 S) _ _ rfl rfl HOB.out SRC.out ?_ HAB.out.size ?_)
            · rw [HPL.out]
              have : (be4 S).length = 4 := rfl
              have := HL.out
              omega
            intro v' w' hown hg
            have HO' := Lib.hid hown
            have HB' := Lib.hid (HAB.out.grown hg HAB.out.size HOB.out.rows)
            clear hown hg
            go_wp2
            go_ret
            exact ⟨_, rfl, fun h => by have := HT.out; omega, fun _ => by rw [← HFR.out]; exact HO'.out, HB'.out⟩
end Go.Proofs.YtmbonngjkgcijaaGreatDoor

namespace Go.Proofs.YtmbonngjkgcijaaGreatDoor
open Go.RowKit

theorem new_own (w : World) (l : List UInt8) (hl : l.length ≤ 1073741824) : OwnBy (w.alloc (.cells (bc l).toArray 5)) w.heap.size (.slice (some ⟨w.heap.size, 0, none⟩) l.length l.length) l := by
  have hblk := heap_alloc_new w (.cells (bc l).toArray 5)
  refine .inr ⟨w.heap.size, l.length, rfl, Nat.le_refl _, by show w.heap.size < (w.heap.push _).size; rw [Array.size_push]; omega, Nat.le_refl _, by unfold maxLen; omega, fun i b hi => ?_, fun j hj => ⟨?_, free0 hblk j⟩⟩
  · rw [cell_of_row _ _ _ _ _ _ hblk]
    simpa using bc_some hi
  · rw [cell_of_row _ _ _ _ _ _ hblk]
    have := bc_some (List.getElem?_eq_getElem hj)
    simpa using (show ((bc l)[j]?).isSome = true by rw [this]; rfl)
theorem bis_string {w : World} {v : Value} {l : List UInt8} (h : BIs w v l) : (convert 54 9 v).run Tryz.prog w = .ok (.string ⟨l.toArray⟩) w := by
  obtain ⟨A, cap, rfl, _, _, h3⟩ := h
  cases A with
  | none =>
    have : l = [] := by
      cases l with
      | nil => rfl
      | cons x r => obtain ⟨a, e, _⟩ := h3 0 x rfl; cases e
    subst this
    exact run_convert_bytes_nil w 54 5 Tryz.underlying54 Tryz.underlying5 0 cap 9 Tryz.underlying9
  | some a =>
    exact run_convert_bytes_back w 54 9 5 a cap l Tryz.underlying54 Tryz.underlying5 Tryz.underlying9 (fun j hj => by
      obtain ⟨a', e, _, hc⟩ := h3 j _ (List.getElem?_eq_getElem hj)
      cases e; exact hc)

end Go.Proofs.YtmbonngjkgcijaaGreatDoor

namespace Go.Proofs.YtmbonngjkgcijaaGreatDoor
open Go.RowKit

/-- A slice of slices that is laid anew. -/
theorem new_parts (w : World) (xs : List Value) (ls : List (List UInt8)) (hlen : xs.length = ls.length) (hl : ls.length ≤ 1000) (h : ∀ (i : Nat) (x : Value) (l : List UInt8), xs[i]? = some x → ls[i]? = some l → BIs w x l) :
    PIs (w.alloc (.cells xs.toArray 54)) (.slice (some ⟨w.heap.size, 0, none⟩) ls.length ls.length) ls := by
  refine ⟨_, _, rfl, Nat.le_refl _, by unfold maxLen; omega, fun i l hi => ?_⟩
  have hi' : i < xs.length := by rw [hlen]; exact (List.getElem?_eq_some_iff.1 hi).1
  refine ⟨_, xs[i], rfl, by show w.heap.size < (w.heap.push _).size; rw [Array.size_push]; omega, ?_, (h i _ l (List.getElem?_eq_getElem hi') hi).below ((Below.refl _ _).alloc (Nat.le_refl _) _)⟩
  rw [add0, cell_of_row _ _ _ _ _ _ (heap_alloc_new w _)]
  simp [hi']

end Go.Proofs.YtmbonngjkgcijaaGreatDoor

namespace Go.Proofs.YtmbonngjkgcijaaGreatDoor
open Go.RowKit

theorem i87 : (Tryz.prog.info? 190).map (fun i => (i.methods.find? (·.name == "Unwrap")).map (fun m => (m.path.toList, m.func))) = some (some ([⟨194, 0, true⟩], some (218, false))) := by kernel_rfl
theorem i94 : (Tryz.prog.info? 198).map (fun i => (i.methods.find? (·.name == "Unwrap")).map (fun m => (m.path.toList, m.func))) = some (some ([⟨200, 0, true⟩], some (218, false))) := by kernel_rfl
theorem i76 : (Tryz.prog.info? 195).map (fun i => (i.methods.find? (·.name == "Unwrap")).map (fun m => (m.path.toList, m.func))) = some (some ([⟨197, 0, true⟩], some (218, false))) := by kernel_rfl
theorem sz80 (w : World) : (sizeOf 192).run Tryz.prog w = .ok 1 w := by kernel_rfl
theorem ag80 (w : World) : (isAgg 192).run Tryz.prog w = .ok true w := by kernel_rfl

theorem load_link (b : Nat) (v : Value) (w : World) (h : w.cell? ⟨b, 0, none⟩ = some v) : (loadVar 192 ⟨b, 0, none⟩).run Tryz.prog w = .ok (.agg #[v]) w := by
  simp [loadVar, ag80, sz80, loadCells, loadCellsFrom, go_sem, h, Addr.add]

theorem method_unwrap1 (fuel : Nat) {t st : TypeId} {fs : Array Field} {f : Field}
    (hi : (Tryz.prog.info? t).map (fun i => (i.methods.find? (·.name == "Unwrap")).map (fun m => (m.path.toList, m.func))) = some (some ([⟨st, 0, true⟩], some (218, false))))
    (hs : Tryz.prog.underlying st = some (.struct fs)) (hf : fs[0]? = some f) (hft : f.type = 192) (hfo : f.offset = 0)
    (b : Nat) (v : Value) (w : World) (h : w.cell? ⟨b, 0, none⟩ = some v) :
    (method (fuel + 1) t (.pointer (some ⟨b, 0, none⟩)) "Unwrap").run Tryz.prog w = .ok (218, .agg #[v]) w := by
  obtain ⟨i, hi, hm⟩ := Option.map_eq_some_iff.1 hi
  obtain ⟨m, hm, he⟩ := Option.map_eq_some_iff.1 hm
  obtain ⟨hp, hfn⟩ := Prod.mk.inj he
  have hne : m.path.isEmpty = false := by
    rw [← Array.isEmpty_toList, hp]; rfl
  have hl := load_link b v w h
  rw [method]
  simp [typeInfo, hi, hm, hp, hfn, follow, run_underlying hs, hf, Place.get, asAddr, fieldPlace, hft, hfo, sz80, Addr.add, receiverAt, hne, run_underlying Tryz.underlying192, hl]
theorem m87u (b : Nat) (v : Value) (w : World) (h : w.cell? ⟨b, 0, none⟩ = some v) : (method 415 190 (.pointer (some ⟨b, 0, none⟩)) "Unwrap").run Tryz.prog w = .ok (218, .agg #[v]) w :=
  method_unwrap1 414 i87 Tryz.underlying194 rfl rfl rfl b v w h
theorem m94u (b : Nat) (v : Value) (w : World) (h : w.cell? ⟨b, 0, none⟩ = some v) : (method 415 198 (.pointer (some ⟨b, 0, none⟩)) "Unwrap").run Tryz.prog w = .ok (218, .agg #[v]) w :=
  method_unwrap1 414 i94 Tryz.underlying200 rfl rfl rfl b v w h
theorem m76u (b : Nat) (v : Value) (w : World) (h : w.cell? ⟨b, 0, none⟩ = some v) : (method 415 195 (.pointer (some ⟨b, 0, none⟩)) "Unwrap").run Tryz.prog w = .ok (218, .agg #[v]) w :=
  method_unwrap1 414 i76 Tryz.underlying197 rfl rfl rfl b v w h

theorem hasU87 (v : Value) (xT : TypeId) (w : World) : (Instr.typeAssert (.iface 190 v) xT 279 true).run Tryz.prog w = .ok (.tuple #[.iface 190 v, .bool true]) w := run_typeAssert_hasB Tryz.underlying279 (by kernel_rfl) v xT w
theorem hasU94 (v : Value) (xT : TypeId) (w : World) : (Instr.typeAssert (.iface 198 v) xT 279 true).run Tryz.prog w = .ok (.tuple #[.iface 198 v, .bool true]) w := run_typeAssert_hasB Tryz.underlying279 (by kernel_rfl) v xT w
theorem hasU76 (v : Value) (xT : TypeId) (w : World) : (Instr.typeAssert (.iface 195 v) xT 279 true).run Tryz.prog w = .ok (.tuple #[.iface 195 v, .bool true]) w := run_typeAssert_hasB Tryz.underlying279 (by kernel_rfl) v xT w
theorem noU84 (v : Value) (xT : TypeId) (w : World) : (Instr.typeAssert (.iface 159 v) xT 279 true).run Tryz.prog w = .ok (.tuple #[.nilIface, .bool false]) w := run_typeAssert_lacksB Tryz.underlying279 (by kernel_rfl) (by kernel_rfl) v xT w
theorem noAs87 (v : Value) (xT : TypeId) (w : World) : (Instr.typeAssert (.iface 190 v) xT 276 true).run Tryz.prog w = .ok (.tuple #[.nilIface, .bool false]) w := run_typeAssert_lacksB Tryz.underlying276 (by kernel_rfl) (by kernel_rfl) v xT w
theorem noAs94 (v : Value) (xT : TypeId) (w : World) : (Instr.typeAssert (.iface 198 v) xT 276 true).run Tryz.prog w = .ok (.tuple #[.nilIface, .bool false]) w := run_typeAssert_lacksB Tryz.underlying276 (by kernel_rfl) (by kernel_rfl) v xT w
theorem noAs76 (v : Value) (xT : TypeId) (w : World) : (Instr.typeAssert (.iface 195 v) xT 276 true).run Tryz.prog w = .ok (.tuple #[.nilIface, .bool false]) w := run_typeAssert_lacksB Tryz.underlying276 (by kernel_rfl) (by kernel_rfl) v xT w

/-- A link of a chain. -/
inductive Lk where
  | num (e : Int)
  | plc (p : Int)
  | nam (s : ByteArray)
  | bnd (l g : Int)

def WrapIs (w : World) (t el : TypeId) (cs : Value → Array Value) (inner : Value → Prop) (v : Value) : Prop :=
  ∃ b x, v = .iface t (.pointer (some ⟨b, 0, none⟩)) ∧ w.heap[b]? = some (.cells (cs x) el (0, 0)) ∧ inner x

/-- The error value v is the chain c in the world w. -/
def ErrIs (w : World) : List Lk → Value → Prop
  | [], v => v = .nilIface
  | .num e :: r, v => r = [] ∧ v = .iface 159 (.agg #[.int .i64 e])
  | .plc p :: r, v => r ≠ [] ∧ WrapIs w 190 194 (fun x => #[x, .int .i64 p]) (ErrIs w r) v
  | .nam s :: r, v => r ≠ [] ∧ WrapIs w 198 200 (fun x => #[x, .string s]) (ErrIs w r) v
  | .bnd l g :: r, v => r ≠ [] ∧ WrapIs w 195 197 (fun x => #[x, .int .i64 l, .int .i64 g]) (ErrIs w r) v

theorem WrapIs.keep {w w' : World} {t el : TypeId} {cs : Value → Array Value} {p q : Value → Prop} {v : Value} (hk : ∀ b, b < w.heap.size → w'.heap[b]? = w.heap[b]?) (hpq : ∀ x, p x → q x) (h : WrapIs w t el cs p v) : WrapIs w' t el cs q v := by
  obtain ⟨b, x, rfl, hb, hx⟩ := h
  refine ⟨b, x, rfl, ?_, hpq x hx⟩
  have hlt : b < w.heap.size := by
    rcases Nat.lt_or_ge b w.heap.size with h | h
    · exact h
    · rw [Array.getElem?_eq_none h] at hb; cases hb
  rw [hk b hlt, hb]

theorem ErrIs.keep {w w' : World} (hk : ∀ b, b < w.heap.size → w'.heap[b]? = w.heap[b]?) : ∀ (c : List Lk) (v : Value), ErrIs w c v → ErrIs w' c v
  | [], _, h => h
  | .num _ :: _, _, h => h
  | .plc _ :: r, _, h => ⟨h.1, h.2.keep hk (ErrIs.keep hk r)⟩
  | .nam _ :: r, _, h => ⟨h.1, h.2.keep hk (ErrIs.keep hk r)⟩
  | .bnd _ _ :: r, _, h => ⟨h.1, h.2.keep hk (ErrIs.keep hk r)⟩
theorem ErrIs.below {w w' : World} {c : List Lk} {v : Value} (h : ErrIs w c v) (hb : Below w.heap.size w w') : ErrIs w' c v := h.keep hb.block c v

theorem recover_idle (p : Addr) (w : World) :
    CallsD Tryz.prog 193 #[.pointer (some p)] .returning w fun e u' w' => e = .returned (.tuple #[]) ∧ u' = .returning ∧ w' = w := by
  refine callsD_of_wpS Tryz.func193 rfl fun c₀ cs hu => ?_
  apply wpS_seq
  apply wpS_region
  simp [wpOpsS, go_sem, recoverD, hu, Tryz.ntmps193, Exit.thenS]
  refine wpS_cond (t := false) (by simp [Act.eval, Array.replicate]) ?_
  simp only [Bool.false_eq_true, if_false]
  refine wpS_of_wp (wp_skip ?_)
  cases c₀
  simp_all [bodyPostS, results, Tryz.results193]

set_option maxHeartbeats 400000 in
theorem link_unwrap (v : Value) (w : World) :
    Calls Tryz.prog 218 #[.agg #[v]] w fun e w' => e = .returned v ∧ w' = w.alloc (.cells #[v] 192) := by
  go_enter Tryz.func218, Tryz.ntmps218
  go_wp2
  go_ret
  exact ⟨rfl, rfl⟩
set_option maxRecDepth 100000 in
set_option maxHeartbeats 400000 in
theorem unwrap_num (e : Int) (w : World) :
    Calls Tryz.prog 194 #[.iface 159 (.agg #[.int .i64 e])] w fun e w' => e = .returned (.nilIface) ∧ w' = w := by
  have h1 := noU84
  go_enter Tryz.func194, Tryz.ntmps194
  go_wp2
  go_ret
  exact ⟨rfl, rfl⟩
set_option maxRecDepth 100000 in
set_option maxHeartbeats 400000 in
theorem unwrap_plc (b : Nat) (v : Value) (w : World) (hc : w.cell? ⟨b, 0, none⟩ = some v) :
    Calls Tryz.prog 194 #[.iface 190 (.pointer (some ⟨b, 0, none⟩))] w fun e w' => e = .returned v ∧ w' = w.alloc (.cells #[v] 192) := by
  have h1 := hasU87
  have h2 := m87u b v w hc
  go_enter Tryz.func194, Tryz.ntmps194
  go_wp2_with (go_at_call 218; refine (link_unwrap _ _).mono ?_; rintro e w' ⟨rfl, rfl⟩)
  go_ret
  exact ⟨rfl, rfl⟩
set_option maxRecDepth 100000 in
set_option maxHeartbeats 400000 in
theorem unwrap_nam (b : Nat) (v : Value) (w : World) (hc : w.cell? ⟨b, 0, none⟩ = some v) :
    Calls Tryz.prog 194 #[.iface 198 (.pointer (some ⟨b, 0, none⟩))] w fun e w' => e = .returned v ∧ w' = w.alloc (.cells #[v] 192) := by
  have h1 := hasU94
  have h2 := m94u b v w hc
  go_enter Tryz.func194, Tryz.ntmps194
  go_wp2_with (go_at_call 218; refine (link_unwrap _ _).mono ?_; rintro e w' ⟨rfl, rfl⟩)
  go_ret
  exact ⟨rfl, rfl⟩
set_option maxRecDepth 100000 in
set_option maxHeartbeats 400000 in
theorem unwrap_bnd (b : Nat) (v : Value) (w : World) (hc : w.cell? ⟨b, 0, none⟩ = some v) :
    Calls Tryz.prog 194 #[.iface 195 (.pointer (some ⟨b, 0, none⟩))] w fun e w' => e = .returned v ∧ w' = w.alloc (.cells #[v] 192) := by
  have h1 := hasU76
  have h2 := m76u b v w hc
  go_enter Tryz.func194, Tryz.ntmps194
  go_wp2_with (go_at_call 218; refine (link_unwrap _ _).mono ?_; rintro e w' ⟨rfl, rfl⟩)
  go_ret
  exact ⟨rfl, rfl⟩

theorem ErrIs.lt {w : World} {b : Nat} {o : Obj} (h : w.heap[b]? = some o) : b < w.heap.size := by
  rcases Nat.lt_or_ge b w.heap.size with h1 | h1
  · exact h1
  · rw [Array.getElem?_eq_none h1] at h; cases h
theorem cell0 {w W : World} (hW : Below w.heap.size w W) {b : Nat} {x : Value} {l : List Value} {t : TypeId} (h : w.heap[b]? = some (.cells ⟨x :: l⟩ t (0, 0))) : W.cell? ⟨b, 0, none⟩ = some x := by
  rw [cell_of_row W b 0 _ t (0, 0) ((hW.block b (ErrIs.lt h)).trans h)]; rfl
/-- errors.Unwrap of a chain that lies in w, called in a later world W. -/
def UnwrapPost (r : List Lk) (w W : World) (e : Ending) (w' : World) : Prop := ∃ x, e = .returned x ∧ ErrIs w r x ∧ Below W.heap.size W w'
theorem unwrap_any {w W : World} {k : Lk} {r : List Lk} {v : Value} (h : ErrIs w (k :: r) v) (hW : Below w.heap.size w W) : Calls Tryz.prog 194 #[v] W (UnwrapPost r w W) := by
  have hA : ∀ x, Below W.heap.size W (W.alloc (.cells #[x] 192)) := fun x => (Below.refl _ _).alloc (Nat.le_refl _) _
  cases k with
  | num e =>
    obtain ⟨rfl, rfl⟩ := h
    exact (unwrap_num e W).mono fun e w' ⟨he, hw⟩ => ⟨_, he, rfl, hw ▸ Below.refl _ _⟩
  | plc p =>
    obtain ⟨_, b, x, rfl, hb, hx⟩ := h
    exact (unwrap_plc b x W (cell0 hW hb)).mono fun e w' ⟨he, hw⟩ => ⟨_, he, hx, hw ▸ hA x⟩
  | nam p =>
    obtain ⟨_, b, x, rfl, hb, hx⟩ := h
    exact (unwrap_nam b x W (cell0 hW hb)).mono fun e w' ⟨he, hw⟩ => ⟨_, he, hx, hw ▸ hA x⟩
  | bnd l g =>
    obtain ⟨_, b, x, rfl, hb, hx⟩ := h
    exact (unwrap_bnd b x W (cell0 hW hb)).mono fun e w' ⟨he, hw⟩ => ⟨_, he, hx, hw ▸ hA x⟩

theorem ErrIs.form {w : World} : ∀ {c : List Lk} {v : Value}, ErrIs w c v → v = .nilIface ∨ ∃ t u, v = .iface t u
  | [], _, h => .inl h
  | .num _ :: _, _, h => .inr ⟨_, _, h.2⟩
  | .plc _ :: _, _, ⟨_, _, _, h, _⟩ => .inr ⟨_, _, h⟩
  | .nam _ :: _, _, ⟨_, _, _, h, _⟩ => .inr ⟨_, _, h⟩
  | .bnd _ _ :: _, _, ⟨_, _, _, h, _⟩ => .inr ⟨_, _, h⟩

theorem new_of_below {w w1 : World} {o : Obj} (hb : Below (w.heap.size + 1) (w.alloc o) w1) : w1.heap[w.heap.size]? = some o :=
  (hb.block w.heap.size (Nat.lt_succ_self _)).trans (heap_alloc_new w o)
theorem new_cell {w w1 : World} {x : Value} {t : TypeId} (hb : Below (w.alloc (.cells #[x] t)).heap.size (w.alloc (.cells #[x] t)) w1) : w1.cell? ⟨w.heap.size, 0, none⟩ = some x := by
  rw [cell_of_row w1 w.heap.size 0 _ _ _ (new_of_below (by simpa using hb))]; rfl
theorem new_free {w w1 : World} {x : Value} {t : TypeId} (hb : Below (w.alloc (.cells #[x] t)).heap.size (w.alloc (.cells #[x] t)) w1) : w1.frozen? ⟨w.heap.size, 0, none⟩ = false := by
  simp [World.frozen?, new_of_below (o := .cells #[x] t) (by simpa using hb)]
set_option maxRecDepth 100000 in
set_option maxHeartbeats 400000 in
theorem next_any {w W : World} {k : Lk} {r : List Lk} {v : Value} (h : ErrIs w (k :: r) v) (hW : Below w.heap.size w W) : Calls Tryz.prog 182 #[v] W (UnwrapPost r w W) := by
  have hmf : ∀ (fn : Fn) (first cap : Array Value) (w : World), (Instr.makeFunc fn first cap).run Tryz.prog w = .ok (.func fn first cap) w := fun _ _ _ _ => rfl
  have H0 := Lib.hid (unwrap_any h (hW.alloc hW.size (.cells #[.nilIface] 94)))
  clear h hW
  go_enter_defers Tryz.func182, Tryz.ntmps182
  go_wp2_with fail
  refine (H0.out).mono ?_
  rintro e w1 ⟨x, rfl, hx, hb⟩
  have hc := new_cell hb
  have hf := new_free hb
  rcases hx.form with rfl | ⟨t, u, rfl⟩
  all_goals
    go_wp2
    have hfin : ∀ y, Below W.heap.size W (w1.setCell ⟨W.heap.size, 0, none⟩ y) := fun y => (((Below.refl _ _).alloc (Nat.le_refl _) _).trans (hb.mono (by simp))).setCell (Nat.le_refl _) y
    refine leaves_cons (f := 193) (args := #[.pointer (some ⟨W.heap.size, 0, none⟩)]) (by simp) (by simp [go_sem]) ?_
    refine (recover_idle ⟨W.heap.size, 0, none⟩ _).mono ?_
    rintro e u' w'' ⟨rfl, rfl, rfl⟩
    refine ⟨_, ?_, _, rfl, hx, hfin _⟩
    simp [results, Tryz.results182, go_sem, hc]

def DepthPost (n : Nat) (W : World) (e : Ending) (w' : World) : Prop := e = .returned (.int .i64 (n : Int)) ∧ Below W.heap.size W w'
theorem ErrIs.form1 {w : World} {k : Lk} {c : List Lk} {v : Value} (h : ErrIs w (k :: c) v) : ∃ t u, v = .iface t u := by
  cases k with
  | num e => exact ⟨_, _, h.2⟩
  | plc p => obtain ⟨_, b, x, h, _⟩ := h; exact ⟨_, _, h⟩
  | nam p => obtain ⟨_, b, x, h, _⟩ := h; exact ⟨_, _, h⟩
  | bnd l g => obtain ⟨_, b, x, h, _⟩ := h; exact ⟨_, _, h⟩
set_option maxRecDepth 100000 in
set_option maxHeartbeats 400000 in
theorem depth_any {w W : World} {c : List Lk} {v : Value} (h : ErrIs w c v) (hW : Below w.heap.size w W) (hn : c.length < 1000) : Calls Tryz.prog 160 #[v] W (DepthPost c.length W) := by
  have hwW : w.heap.size ≤ W.heap.size := hW.size
  go_enter Tryz.func160, Tryz.ntmps160
  go_wp2_with fail
  go_loopw [0, 3] (fun v n wr => ∃ r : List Lk, ∃ k : Nat, ErrIs w r v ∧ c.length = k + r.length ∧ n = .int .i64 k ∧ Below W.heap.size W wr) (fun _ n _ => 1000 - (intOf n).toNat)
  case atStart => exact ⟨c, 0, h, by simp, rfl, Below.refl _ _⟩
  case round =>
    clear h
    obtain ⟨r, k, hr, hlen, rfl, hb⟩ := hrel
    have hk : k < 1000 := by omega
    cases r with
    | nil =>
      obtain rfl : u0 = .nilIface := hr
      have hlen' : k = c.length := by simpa using hlen.symm
      have HL := Lib.hid hlen'
      clear hlen hlen'
      go_wp2
      go_ret
      exact ⟨by rw [← HL.out]; rfl, hb⟩
    | cons k0 r =>
      obtain ⟨t, u, rfl⟩ := hr.form1
      have hn1 : (k : Int) < 1048576 := by omega
      have H0 := Lib.hid (next_any hr (hW.trans (hb.mono hwW)))
      have HL := Lib.hid hlen
      clear hlen
      go_wp2_with (go_at_call 182; refine (H0.out).mono ?_; rintro e w1 ⟨x, rfl, hx, hb1⟩)
      go_roundw
      case rel => exact ⟨r, k + 1, hx, by rw [HL.out]; simp; omega, by go_num, hb.trans (hb1.mono hb.size)⟩
      case measure => simp [intOf]; omega
theorem ends_any {w W : World} {c : List Lk} {v : Value} (h : ErrIs w c v) (hW : Below w.heap.size w W) (hn : c.length < 1000) : Calls Tryz.prog 127 #[v] W fun e w' => e = .returned (.bool true) ∧ Below W.heap.size W w' := by
  have H0 := Lib.hid (depth_any h hW hn)
  have hn1 : (c.length : Int) < 1048576 := by omega
  clear h hW
  go_enter Tryz.func127, Tryz.ntmps127
  go_wp2_with (go_at_call 160; refine (H0.out).mono ?_; rintro e w1 ⟨rfl, hb⟩)
  go_ret
  exact ⟨rfl, hb⟩

end Go.Proofs.YtmbonngjkgcijaaGreatDoor

namespace Go.Proofs.YtmbonngjkgcijaaGreatDoor
open Go.RowKit Go.Extern.Stop Go.Stop Go.Extern

theorem methodKind (h : Value) (w : World) : (Go.method 415 271 (.agg #[h]) "Kind").run Tryz.prog w = .ok (213, h) w := by kernel_rfl
theorem methodElem (h : Value) (w : World) : (Go.method 415 271 (.agg #[h]) "Elem").run Tryz.prog w = .ok (227, .agg #[h]) w := by kernel_rfl
theorem methodImplements (h : Value) (w : World) : (Go.method 415 271 (.agg #[h]) "Implements").run Tryz.prog w = .ok (228, .agg #[h]) w := by kernel_rfl
theorem methodAssignableTo (h : Value) (w : World) : (Go.method 415 271 (.agg #[h]) "AssignableTo").run Tryz.prog w = .ok (225, .agg #[h]) w := by kernel_rfl
theorem rlm (z : Sem Value) (f : TypeId → Addr → Nat → Nat → Sem Value) (v : Value) :
    ReflectliteValue.method z f #[v] = (do match ← ReflectliteValue.parts v with | none => z | some (t, a, fl) => f t a fl (fl % 32)) := rfl
theorem rls (v x : Value) : ReflectliteValue.set #[v, x] = (do
    let (some (dst, a, fl), some (src, b, _)) := (← ReflectliteValue.parts v, ← ReflectliteValue.parts x)
      | unsupported (.noEntry "extern/(internal/reflectlite.Value).Set.zeroValue")
    if fl / ReflectliteValue.flagAddr % 2 == 0 then unsupported (.noEntry "extern/(internal/reflectlite.Value).Set.unaddressable")
    let val ← loadVar src b
    if ← Rtype.directlyAssignable dst src then storeVar dst a val
    else if ← Rtype.implements dst src then
      if (← Rtype.kind src) == 20 then
        match val with
        | .nilIface => unsupported (.noEntry "extern/reflectlite: a nil value of one interface type handed on as a value of another")
        | _ => storeVar dst a val
      else storeVar dst a (.iface src val)
    else panicString ("reflectlite.Set: value of type " ++ (← Rtype.spelt src) ++ " is not assignable to type " ++ (← Rtype.spelt dst))
    pure (.tuple #[])) := rfl

theorem typeOf84 (v : Value) (w : World) : (ReflectliteType.typeOf #[.iface 159 v]).run Tryz.prog w = .ok (.iface 271 (.agg #[.pointer (some ⟨2, 159, none⟩)])) w := by kernel_rfl
theorem typeOf87 (v : Value) (w : World) : (ReflectliteType.typeOf #[.iface 190 v]).run Tryz.prog w = .ok (.iface 271 (.agg #[.pointer (some ⟨2, 190, none⟩)])) w := by kernel_rfl
theorem typeOf94 (v : Value) (w : World) : (ReflectliteType.typeOf #[.iface 198 v]).run Tryz.prog w = .ok (.iface 271 (.agg #[.pointer (some ⟨2, 198, none⟩)])) w := by kernel_rfl
theorem typeOf76 (v : Value) (w : World) : (ReflectliteType.typeOf #[.iface 195 v]).run Tryz.prog w = .ok (.iface 271 (.agg #[.pointer (some ⟨2, 195, none⟩)])) w := by kernel_rfl
/-! target num -/
theorem valueOf129 (t : Addr) (w : World) : (ReflectliteValue.unpack (.iface 234 (.pointer (some t)))).run Tryz.prog w
    = .ok (.agg #[.pointer (some ⟨2, 234, none⟩), .pointer (some ⟨w.heap.size, 0, none⟩), .int .u64 150]) (w.alloc (.cells #[.pointer (some t)] 234)) := by kernel_rfl
theorem type129 (a : Addr) (w : World) : (ReflectliteValue.methodAny (ReflectliteValue.valueError "reflectlite.Value.Type" 0) (fun t _ _ _ => ReflectliteType.toType t) #[.agg #[.pointer (some ⟨2, 234, none⟩), .pointer (some a), .int .u64 150]]).run Tryz.prog w
    = .ok (.iface 271 (.agg #[.pointer (some ⟨2, 234, none⟩)])) w := by kernel_rfl
theorem kind129 (w : World) : ((ReflectliteType.abiMethod fun t => (fun a : Nat => Value.int IntKind.u8 (a : Int)) <$> Rtype.kind t) #[.pointer (some ⟨2, 234, none⟩)]).run Tryz.prog w = .ok (.int .u8 22) w := by kernel_rfl
theorem kind84 (w : World) : ((ReflectliteType.abiMethod fun t => (fun a : Nat => Value.int IntKind.u8 (a : Int)) <$> Rtype.kind t) #[.pointer (some ⟨2, 159, none⟩)]).run Tryz.prog w = .ok (.int .u8 25) w := by kernel_rfl
theorem parts129 (a : Addr) (w : World) : (ReflectliteValue.parts (.agg #[.pointer (some ⟨2, 234, none⟩), .pointer (some a), .int .u64 150])).run Tryz.prog w = .ok (some (234, a, 150)) w := by kernel_rfl
theorem isNil129 (a p : Addr) (W : World) (ha : W.cell? a = some (.pointer (some p))) :
    (ReflectliteValue.method (ReflectliteValue.valueError "reflectlite.Value.IsNil" 0) ReflectliteValue.isNil #[.agg #[.pointer (some ⟨2, 234, none⟩), .pointer (some a), .int .u64 150]]).run Tryz.prog W = .ok (.bool false) W := by
  rw [rlm]
  simp only [Sem.run_bind, parts129, Result.andThen]
  simp [ReflectliteValue.isNil, loadVar, isAgg, underlying, Tryz.underlying234, ha, Result.andThen]
theorem elem129 (w : World) : (ReflectliteType.method ReflectliteType.elem #[.agg #[.pointer (some ⟨2, 234, none⟩)]]).run Tryz.prog w = .ok (.iface 271 (.agg #[.pointer (some ⟨2, 159, none⟩)])) w := by kernel_rfl
theorem implements84 (w : World) : (ReflectliteType.relation "Implements" ReflectliteType.implements_ #[.agg #[.pointer (some ⟨2, 159, none⟩)], .iface 271 (.agg #[.pointer (some ⟨2, 94, none⟩)])]).run Tryz.prog w = .ok (.bool true) w := by kernel_rfl
theorem elemOf129 (w : World) : (Rtype.elem? 234).run Tryz.prog w = .ok (some 159) w := by kernel_rfl
theorem mk84 (p : Addr) (w : World) : (ReflectliteValue.mk 159 p ReflectliteValue.flagAddr).run Tryz.prog w = .ok (.agg #[.pointer (some ⟨2, 159, none⟩), .pointer (some p), .int .u64 409]) w := by kernel_rfl
theorem elemV129 (a p : Addr) (W : World) (ha : W.cell? a = some (.pointer (some p))) :
    (ReflectliteValue.method (ReflectliteValue.valueError "reflectlite.Value.Elem" 0) ReflectliteValue.elem #[.agg #[.pointer (some ⟨2, 234, none⟩), .pointer (some a), .int .u64 150]]).run Tryz.prog W
      = .ok (.agg #[.pointer (some ⟨2, 159, none⟩), .pointer (some p), .int .u64 409]) W := by
  rw [rlm]
  simp only [Sem.run_bind, parts129, Result.andThen]
  simp [ReflectliteValue.elem, loadVar, isAgg, underlying, Tryz.underlying234, ha, Result.andThen, elemOf129, mk84]
theorem valueOf84 (e : Int) (w : World) : (ReflectliteValue.unpack (.iface 159 (.agg #[.int .i64 e]))).run Tryz.prog w
    = .ok (.agg #[.pointer (some ⟨2, 159, none⟩), .pointer (some ⟨w.heap.size, 0, none⟩), .int .u64 153]) (w.alloc (.cells #[(.int .i64 e)] 159)) := by kernel_rfl
theorem parts84a (a : Addr) (w : World) : (ReflectliteValue.parts (.agg #[.pointer (some ⟨2, 159, none⟩), .pointer (some a), .int .u64 409])).run Tryz.prog w = .ok (some (159, a, 409)) w := by kernel_rfl
theorem parts84 (a : Addr) (w : World) : (ReflectliteValue.parts (.agg #[.pointer (some ⟨2, 159, none⟩), .pointer (some a), .int .u64 153])).run Tryz.prog w = .ok (some (159, a, 153)) w := by kernel_rfl
theorem direct84 (w : World) : (Rtype.directlyAssignable 159 159).run Tryz.prog w = .ok true w := by kernel_rfl
theorem size84 (w : World) : (sizeOf 159).run Tryz.prog w = .ok 1 w := by kernel_rfl

theorem agg84 (w : World) : (isAgg 159).run Tryz.prog w = .ok true w := by kernel_rfl
theorem set84 (bt bs : Nat) (e : Int) (old : Value) (W : World) (hb : W.cell? ⟨bs, 0, none⟩ = some (.int .i64 e)) (ht : W.cell? ⟨bt, 0, none⟩ = some old) (hf : W.frozen? ⟨bt, 0, none⟩ = false) :
    (ReflectliteValue.set #[.agg #[.pointer (some ⟨2, 159, none⟩), .pointer (some ⟨bt, 0, none⟩), .int .u64 409], .agg #[.pointer (some ⟨2, 159, none⟩), .pointer (some ⟨bs, 0, none⟩), .int .u64 153]]).run Tryz.prog W
      = .ok (.tuple #[]) (W.setCell ⟨bt, 0, none⟩ (.int .i64 e)) := by
  rw [rls]
  simp only [Sem.run_bind, parts84a, parts84, Result.andThen]
  simp [ReflectliteValue.flagAddr, loadVar, agg84, size84, loadCells, loadCellsFrom, go_sem, hb, Result.andThen, direct84, storeVar, Value.cells, storeCells, Addr.add, ht, hf]

theorem assign84to84 (w : World) : (ReflectliteType.relation "AssignableTo" ReflectliteType.assignableTo #[.agg #[.pointer (some ⟨2, 159, none⟩)], .iface 271 (.agg #[.pointer (some ⟨2, 159, none⟩)])]).run Tryz.prog w = .ok (.bool true) w := by kernel_rfl
theorem assign87to84 (w : World) : (ReflectliteType.relation "AssignableTo" ReflectliteType.assignableTo #[.agg #[.pointer (some ⟨2, 190, none⟩)], .iface 271 (.agg #[.pointer (some ⟨2, 159, none⟩)])]).run Tryz.prog w = .ok (.bool false) w := by kernel_rfl
theorem assign94to84 (w : World) : (ReflectliteType.relation "AssignableTo" ReflectliteType.assignableTo #[.agg #[.pointer (some ⟨2, 198, none⟩)], .iface 271 (.agg #[.pointer (some ⟨2, 159, none⟩)])]).run Tryz.prog w = .ok (.bool false) w := by kernel_rfl
theorem assign76to84 (w : World) : (ReflectliteType.relation "AssignableTo" ReflectliteType.assignableTo #[.agg #[.pointer (some ⟨2, 195, none⟩)], .iface 271 (.agg #[.pointer (some ⟨2, 159, none⟩)])]).run Tryz.prog w = .ok (.bool false) w := by kernel_rfl
end Go.Proofs.YtmbonngjkgcijaaGreatDoor
