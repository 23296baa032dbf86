/- The reference's Read, in memory. -/
import Derived.Test.YtmaokoekbjjgfaaDoorZChdA
set_option linter.unusedSimpArgs false
set_option linter.unusedVariables false
set_option linter.unnecessarySimpa false
namespace Go.Proofs.YtmaokoekbjjgfaaDoor
open Go.RowKit Go.Shelf

theorem okT_no {t : Int} (h : okT t = false) : t < 1 ∨ 1073741824 < t := by
  unfold okT at h
  simp at h
  omega
theorem okT_yes {t : Int} (h : ¬ okT t = false) : ¬ t < 1 ∧ ¬ 1073741824 < t := by
  unfold okT at h
  simp at h
  omega
set_option maxRecDepth 100000 in
set_option maxHeartbeats 8000000 in
theorem rread_any {w : World} {r : Nat} {v : Value} {L : List Ver} {t : Int} (h : RAt w r v L) (hR : Ris L) (hl : L.length ≤ 1000000) :
    Calls Tryd.prog 25 #[.pointer (some ⟨r, 0, none⟩), .int .i64 t] w fun e w' => e = .returned (.tuple #[.int .i64 (readP L t).2.1, .bool (readP L t).2.2.1, .int .i64 (readP L t).2.2.2]) ∧ RPost w r v (readP L t).1 w' := by
  by_cases ho : okT t = false
  · have hr : readP L t = (L, 0, false, 2) := by unfold readP; rw [if_pos ho]
    rw [hr]
    have HF := Lib.hid (RPost.same h (Below.refl _ w))
    have ho' := okT_no ho
    clear h hR ho hr
    by_cases h1 : t < 1
    · go_enter Tryd.func25, Tryd.ntmps25
      go_wp2_with fail
      (try simp only [Exit.inBlock, Exit.then])
      refine bodyPost_ret (v := .tuple #[.int .i64 0, .bool false, .int .i64 2]) (by simp [results, Tryd.results25, go_sem]) rfl ?_
      exact ⟨rfl, HF.out⟩
    · have h2 : 1073741824 < t := by omega
      go_enter Tryd.func25, Tryd.ntmps25
      go_wp2_with fail
      (try simp only [Exit.inBlock, Exit.then])
      refine bodyPost_ret (v := .tuple #[.int .i64 0, .bool false, .int .i64 2]) (by simp [results, Tryd.results25, go_sem]) rfl ?_
      exact ⟨rfl, HF.out⟩
  · obtain ⟨o1, o2⟩ := okT_yes ho
    by_cases hz : cnt L t = 0
    · have hr : readP L t = (L, 0, false, 22) := by unfold readP; rw [if_neg ho, if_pos hz]
      rw [hr]
      have hf := rfind_any (t := t) h hR hl
      rw [hz] at hf
      have HFI : Hid (Calls Tryd.prog 37 #[.pointer (some ⟨r, 0, none⟩), .int .i64 t] w fun e w' => e = .returned (.int .i64 (-1)) ∧ Below w.heap.size w w') := Lib.hid hf
      have HH := Lib.hid h
      clear h hR ho hr hz hf
      go_enter Tryd.func25, Tryd.ntmps25
      go_wp2_with fail
      refine (HFI.out).mono ?_
      rintro e w1 ⟨rfl, hb1⟩
      have HF := Lib.hid (RPost.same HH.out hb1)
      clear hb1 HFI
      go_wp2_with fail
      (try simp only [Exit.inBlock, Exit.then])
      refine bodyPost_ret (v := .tuple #[.int .i64 0, .bool false, .int .i64 22]) (by simp [results, Tryd.results25, go_sem]) rfl ?_
      exact ⟨rfl, HF.out⟩
    · obtain ⟨k, hk⟩ : ∃ k, cnt L t = k + 1 := ⟨cnt L t - 1, by omega⟩
      have hcl := cnt_le L t
      have hu : L[k]? = some (L[k]'(by omega)) := List.getElem?_eq_getElem _
      generalize L[k]'(by omega) = u at hu
      have hu1 : L[cnt L t - 1]? = some u := by rw [hk]; exact hu
      have hf := rfind_any (t := t) h hR hl
      rw [hk, show (((k + 1 : Nat) : Int) - 1) = (k : Int) from by omega] at hf
      have HFI := Lib.hid hf
      have HH := Lib.hid h
      have HU := Lib.hid hu
      have hkI : (k : Int) < (L.length : Int) := by omega
      have hk0 : ¬ (k : Int) < 0 := by omega
      have hlI : (L.length : Int) ≤ 1000000 := by omega
      have HL := Lib.hid hl
      have hread : readP L t = if u.at_ = t then (L, u.n, u.there, 0) else if u.opn then (L, 0, false, 20) else (L.set k { u with read := max u.read t }, u.n, u.there, 0) := by
        unfold readP
        rw [if_neg ho, if_neg hz, hu1]
        simp only [hk]
        rfl
      have hmax := (cnt_at (t := t) hR k u hu).1 (by omega)
      clear hf h hR ho hz hu1 hcl hk
      obtain ⟨ua, un, ut, ur, uo⟩ := u
      by_cases hat : ua = t
      · subst hat
        have hr : readP L ua = (L, un, ut, 0) := by rw [hread, if_pos rfl]
        rw [hr]
        clear hread hr hmax
        go_enter Tryd.func25, Tryd.ntmps25
        go_wp2_with fail
        refine (HFI.out).mono ?_
        rintro e w1 ⟨rfl, hb1⟩
        have h1 := HH.out.below hb1
        obtain ⟨g, cap, rfl, hc1, hc2, _, k0, k1, k2, k3, k4⟩ := h1.row.ver HU.out
        have kr : w1.cell? ⟨r, 0, none⟩ = some (.slice (some ⟨g, 0, none⟩) L.length cap) := cell_of h1.head 0
        simp only at k0 k1 k2 k3 k4
        unfold maxLen at hc2
        have hb2 := below_new (w := w1) (.cells #[.int .i64 ua, .int .i64 un, .bool ut, .int .i64 ur, .bool uo] 59)
        have HF := Lib.hid (RPost.same HH.out (hb1.trans (hb2.mono hb1.size)))
        have HS : Hid (∀ W, Below w1.heap.size w1 W → True) := Lib.hid (fun _ _ => trivial)
        have hat := alloc_at w1 (.cells #[.int .i64 ua, .int .i64 un, .bool ut, .int .i64 ur, .bool uo] 59)
        have HQ : Hid ((w1.alloc (.cells #[.int .i64 ua, .int .i64 un, .bool ut, .int .i64 ur, .bool uo] 59)).drew.cell? ⟨w1.heap.size, 1, none⟩ = some (.int .i64 un) ∧ (w1.alloc (.cells #[.int .i64 ua, .int .i64 un, .bool ut, .int .i64 ur, .bool uo] 59)).drew.cell? ⟨w1.heap.size, 2, none⟩ = some (.bool ut)) := Lib.hid ⟨cell_of hat 1, cell_of hat 2⟩
        clear hb1 h1 hb2 HFI hat
        cases uo with
        | true =>
          go_wp2_with fail
          refine wp_only ?_
          refine wp_region_held_drew (S := fun W => W.cell? ⟨w1.heap.size, 1, none⟩ = some (.int .i64 un) ∧ W.cell? ⟨w1.heap.size, 2, none⟩ = some (.bool ut)) (by kernel_rfl) HQ.out (fun hHeld => ?_)
          refine wpAnyH_take (i := 0) (oi := { dst := some 54, op := Op.fieldAddr 59 (Operand.tmp 8) 1, type := 0, pos := "ref.go:54", after := #[], guard := none }) (v := ?vv1) rfl (by kernel_rfl) (by kernel_rfl) (by kernel_rfl) (fun _ _ _ h => h) ?hy1 (by assumption) ?rest1
          case hy1 => (refine Or.inl ⟨by rfl, ?_⟩; intro W hSw; (try dsimp only at hSw); go_simp; (try with_reducible rfl))
          try simp only [Act.put, List.setIfInBounds_toArray, List.set_cons_zero, List.set_cons_succ]
          refine wpAnyH_take (i := 1) (oi := { dst := some 55, op := Op.load 2 (Operand.tmp 54), type := 2, pos := "ref.go:54", after := #[{ on := 0, ground := Ground.data }], guard := none }) (v := ?vv2) rfl (by kernel_rfl) (by kernel_rfl) (by kernel_rfl) (fun _ _ _ h => h) ?hy2 (by assumption) ?rest2
          case hy2 => (refine Or.inl ⟨by rfl, ?_⟩; intro W hSw; (try dsimp only at hSw); go_simp; (try with_reducible rfl))
          try simp only [Act.put, List.setIfInBounds_toArray, List.set_cons_zero, List.set_cons_succ]
          refine wpAnyH_take (i := 2) (oi := { dst := some 56, op := Op.fieldAddr 59 (Operand.tmp 8) 2, type := 0, pos := "ref.go:54", after := #[{ on := 4, ground := Ground.gcOnly Departure.lateStores }], guard := none }) (v := ?vv3) rfl (by kernel_rfl) (by kernel_rfl) (by kernel_rfl) (fun _ _ _ h => h) ?hy3 (by assumption) ?rest3
          case hy3 => (refine Or.inl ⟨by rfl, ?_⟩; intro W hSw; (try dsimp only at hSw); go_simp; (try with_reducible rfl))
          try simp only [Act.put, List.setIfInBounds_toArray, List.set_cons_zero, List.set_cons_succ]
          refine wpAnyH_take (i := 3) (oi := { dst := some 57, op := Op.load 4 (Operand.tmp 56), type := 4, pos := "ref.go:54", after := #[{ on := 2, ground := Ground.data }, { on := 4, ground := Ground.gcOnly Departure.lateStores }], guard := none }) (v := ?vv4) rfl (by kernel_rfl) (by kernel_rfl) (by kernel_rfl) (fun _ _ _ h => h) ?hy4 (by assumption) ?rest4
          case hy4 => (refine Or.inl ⟨by rfl, ?_⟩; intro W hSw; (try dsimp only at hSw); go_simp; (try with_reducible rfl))
          try simp only [Act.put, List.setIfInBounds_toArray, List.set_cons_zero, List.set_cons_succ]
          refine wpAnyH_take (i := 4) (oi := { dst := some 4, op := Op.assign (Operand.tmp 55), type := 2, pos := "ref.go:54", after := #[{ on := 1, ground := Ground.data }, { on := 0, ground := Ground.phase }, { on := 1, ground := Ground.phase }, { on := 2, ground := Ground.textOnly Departure.lateStores }, { on := 3, ground := Ground.textOnly Departure.lateStores }], guard := none }) (v := ?vv5) rfl (by kernel_rfl) (by kernel_rfl) (by kernel_rfl) (fun _ _ _ h => h) ?hy5 (by assumption) ?rest5
          case hy5 => (refine Or.inl ⟨by rfl, ?_⟩; intro W hSw; (try dsimp only at hSw); go_simp; (try with_reducible rfl))
          try simp only [Act.put, List.setIfInBounds_toArray, List.set_cons_zero, List.set_cons_succ]
          refine wpAnyH_take (i := 5) (oi := { dst := some 5, op := Op.assign (Operand.tmp 57), type := 4, pos := "ref.go:54", after := #[{ on := 3, ground := Ground.data }, { on := 4, ground := Ground.chain }, { on := 0, ground := Ground.phase }, { on := 1, ground := Ground.phase }, { on := 2, ground := Ground.phase }, { on := 3, ground := Ground.phase }, { on := 4, ground := Ground.phase }], guard := none }) (v := ?vv6) rfl (by kernel_rfl) (by kernel_rfl) (by kernel_rfl) (fun _ _ _ h => h) ?hy6 (by assumption) ?rest6
          case hy6 => (refine Or.inl ⟨by rfl, ?_⟩; intro W hSw; (try dsimp only at hSw); go_simp; (try with_reducible rfl))
          try simp only [Act.put, List.setIfInBounds_toArray, List.set_cons_zero, List.set_cons_succ]
          refine wpAnyH_take (i := 6) (oi := { dst := some 6, op := Op.assign (Operand.const (Value.int IntKind.i64 0)), type := 36, pos := "ref.go:54", after := #[{ on := 5, ground := Ground.chain }, { on := 0, ground := Ground.phase }, { on := 1, ground := Ground.phase }, { on := 2, ground := Ground.phase }, { on := 3, ground := Ground.phase }, { on := 4, ground := Ground.phase }, { on := 5, ground := Ground.phase }], guard := none }) (v := ?vv7) rfl (by kernel_rfl) (by kernel_rfl) (by kernel_rfl) (fun _ _ _ h => h) ?hy7 (by assumption) ?rest7
          case hy7 => (refine Or.inl ⟨by rfl, ?_⟩; intro W hSw; (try dsimp only at hSw); go_simp; (try with_reducible rfl))
          try simp only [Act.put, List.setIfInBounds_toArray, List.set_cons_zero, List.set_cons_succ]
          refine wpAnyH_done (by kernel_rfl) ?_ _
          clear hHeld
          dsimp only [onlyN]
          go_wp2_with fail
          (try simp only [Exit.inBlock, Exit.then])
          refine bodyPost_ret (v := .tuple #[.int .i64 un, .bool ut, .int .i64 0]) (by simp [results, Tryd.results25, go_sem]) rfl ?_
          exact ⟨rfl, HF.out.after (below_drew (Below.refl _ _))⟩
        | false =>
          go_wp2_with fail
          refine wp_only ?_
          refine wp_region_held_drew (S := fun W => W.cell? ⟨w1.heap.size, 1, none⟩ = some (.int .i64 un) ∧ W.cell? ⟨w1.heap.size, 2, none⟩ = some (.bool ut)) (by kernel_rfl) HQ.out (fun hHeld => ?_)
          refine wpAnyH_take (i := 0) (oi := { dst := some 54, op := Op.fieldAddr 59 (Operand.tmp 8) 1, type := 0, pos := "ref.go:54", after := #[], guard := none }) (v := ?vv8) rfl (by kernel_rfl) (by kernel_rfl) (by kernel_rfl) (fun _ _ _ h => h) ?hy8 (by assumption) ?rest8
          case hy8 => (refine Or.inl ⟨by rfl, ?_⟩; intro W hSw; (try dsimp only at hSw); go_simp; (try with_reducible rfl))
          try simp only [Act.put, List.setIfInBounds_toArray, List.set_cons_zero, List.set_cons_succ]
          refine wpAnyH_take (i := 1) (oi := { dst := some 55, op := Op.load 2 (Operand.tmp 54), type := 2, pos := "ref.go:54", after := #[{ on := 0, ground := Ground.data }], guard := none }) (v := ?vv9) rfl (by kernel_rfl) (by kernel_rfl) (by kernel_rfl) (fun _ _ _ h => h) ?hy9 (by assumption) ?rest9
          case hy9 => (refine Or.inl ⟨by rfl, ?_⟩; intro W hSw; (try dsimp only at hSw); go_simp; (try with_reducible rfl))
          try simp only [Act.put, List.setIfInBounds_toArray, List.set_cons_zero, List.set_cons_succ]
          refine wpAnyH_take (i := 2) (oi := { dst := some 56, op := Op.fieldAddr 59 (Operand.tmp 8) 2, type := 0, pos := "ref.go:54", after := #[{ on := 4, ground := Ground.gcOnly Departure.lateStores }], guard := none }) (v := ?vv10) rfl (by kernel_rfl) (by kernel_rfl) (by kernel_rfl) (fun _ _ _ h => h) ?hy10 (by assumption) ?rest10
          case hy10 => (refine Or.inl ⟨by rfl, ?_⟩; intro W hSw; (try dsimp only at hSw); go_simp; (try with_reducible rfl))
          try simp only [Act.put, List.setIfInBounds_toArray, List.set_cons_zero, List.set_cons_succ]
          refine wpAnyH_take (i := 3) (oi := { dst := some 57, op := Op.load 4 (Operand.tmp 56), type := 4, pos := "ref.go:54", after := #[{ on := 2, ground := Ground.data }, { on := 4, ground := Ground.gcOnly Departure.lateStores }], guard := none }) (v := ?vv11) rfl (by kernel_rfl) (by kernel_rfl) (by kernel_rfl) (fun _ _ _ h => h) ?hy11 (by assumption) ?rest11
          case hy11 => (refine Or.inl ⟨by rfl, ?_⟩; intro W hSw; (try dsimp only at hSw); go_simp; (try with_reducible rfl))
          try simp only [Act.put, List.setIfInBounds_toArray, List.set_cons_zero, List.set_cons_succ]
          refine wpAnyH_take (i := 4) (oi := { dst := some 4, op := Op.assign (Operand.tmp 55), type := 2, pos := "ref.go:54", after := #[{ on := 1, ground := Ground.data }, { on := 0, ground := Ground.phase }, { on := 1, ground := Ground.phase }, { on := 2, ground := Ground.textOnly Departure.lateStores }, { on := 3, ground := Ground.textOnly Departure.lateStores }], guard := none }) (v := ?vv12) rfl (by kernel_rfl) (by kernel_rfl) (by kernel_rfl) (fun _ _ _ h => h) ?hy12 (by assumption) ?rest12
          case hy12 => (refine Or.inl ⟨by rfl, ?_⟩; intro W hSw; (try dsimp only at hSw); go_simp; (try with_reducible rfl))
          try simp only [Act.put, List.setIfInBounds_toArray, List.set_cons_zero, List.set_cons_succ]
          refine wpAnyH_take (i := 5) (oi := { dst := some 5, op := Op.assign (Operand.tmp 57), type := 4, pos := "ref.go:54", after := #[{ on := 3, ground := Ground.data }, { on := 4, ground := Ground.chain }, { on := 0, ground := Ground.phase }, { on := 1, ground := Ground.phase }, { on := 2, ground := Ground.phase }, { on := 3, ground := Ground.phase }, { on := 4, ground := Ground.phase }], guard := none }) (v := ?vv13) rfl (by kernel_rfl) (by kernel_rfl) (by kernel_rfl) (fun _ _ _ h => h) ?hy13 (by assumption) ?rest13
          case hy13 => (refine Or.inl ⟨by rfl, ?_⟩; intro W hSw; (try dsimp only at hSw); go_simp; (try with_reducible rfl))
          try simp only [Act.put, List.setIfInBounds_toArray, List.set_cons_zero, List.set_cons_succ]
          refine wpAnyH_take (i := 6) (oi := { dst := some 6, op := Op.assign (Operand.const (Value.int IntKind.i64 0)), type := 36, pos := "ref.go:54", after := #[{ on := 5, ground := Ground.chain }, { on := 0, ground := Ground.phase }, { on := 1, ground := Ground.phase }, { on := 2, ground := Ground.phase }, { on := 3, ground := Ground.phase }, { on := 4, ground := Ground.phase }, { on := 5, ground := Ground.phase }], guard := none }) (v := ?vv14) rfl (by kernel_rfl) (by kernel_rfl) (by kernel_rfl) (fun _ _ _ h => h) ?hy14 (by assumption) ?rest14
          case hy14 => (refine Or.inl ⟨by rfl, ?_⟩; intro W hSw; (try dsimp only at hSw); go_simp; (try with_reducible rfl))
          try simp only [Act.put, List.setIfInBounds_toArray, List.set_cons_zero, List.set_cons_succ]
          refine wpAnyH_done (by kernel_rfl) ?_ _
          clear hHeld
          dsimp only [onlyN]
          go_wp2_with fail
          (try simp only [Exit.inBlock, Exit.then])
          refine bodyPost_ret (v := .tuple #[.int .i64 un, .bool ut, .int .i64 0]) (by simp [results, Tryd.results25, go_sem]) rfl ?_
          exact ⟨rfl, HF.out.after (below_drew (Below.refl _ _))⟩
      · cases uo with
        | true =>
          have hr : readP L t = (L, 0, false, 20) := by rw [hread, if_neg hat, if_pos rfl]
          rw [hr]
          have hq : (ua == t) = false := by rw [beq_eq_false_iff_ne]; exact hat
          have hne : ¬ ua = t := hat
          clear hread hr hmax hat
          go_enter Tryd.func25, Tryd.ntmps25
          go_wp2_with fail
          refine (HFI.out).mono ?_
          rintro e w1 ⟨rfl, hb1⟩
          have h1 := HH.out.below hb1
          obtain ⟨g, cap, rfl, hc1, hc2, _, k0, k1, k2, k3, k4⟩ := h1.row.ver HU.out
          have kr : w1.cell? ⟨r, 0, none⟩ = some (.slice (some ⟨g, 0, none⟩) L.length cap) := cell_of h1.head 0
          simp only at k0 k1 k2 k3 k4
          unfold maxLen at hc2
          have hb2 := below_new (w := w1) (.cells #[.int .i64 ua, .int .i64 un, .bool ut, .int .i64 ur, .bool true] 59)
          have HF := Lib.hid (RPost.same HH.out (hb1.trans (hb2.mono hb1.size)))
          clear hb1 h1 hb2 HFI
          go_wp2_with fail
          (try simp only [Exit.inBlock, Exit.then])
          refine bodyPost_ret (v := .tuple #[.int .i64 0, .bool false, .int .i64 20]) (by simp [results, Tryd.results25, go_sem]) rfl ?_
          exact ⟨rfl, HF.out⟩
        | false =>
          have hq : (ua == t) = false := by rw [beq_eq_false_iff_ne]; exact hat
          have hne : ¬ ua = t := hat
          by_cases hur : ur < t
          · have hr : readP L t = (L.set k ⟨ua, un, ut, t, false⟩, un, ut, 0) := by
              rw [hread, if_neg hat, if_neg (by simp), show max ur t = t from by omega]
            rw [hr]
            clear hread hr hmax hat
            go_enter Tryd.func25, Tryd.ntmps25
            go_wp2_with fail
            refine (HFI.out).mono ?_
            rintro e w1 ⟨rfl, hb1⟩
            have h1 := HH.out.below hb1
            obtain ⟨g, cap, rfl, hc1, hc2, _, k0, k1, k2, k3, k4⟩ := h1.row.ver HU.out
            have kr : w1.cell? ⟨r, 0, none⟩ = some (.slice (some ⟨g, 0, none⟩) L.length cap) := cell_of h1.head 0
            simp only at k0 k1 k2 k3 k4
            unfold maxLen at hc2
            have hb2 := below_new (w := w1) (.cells #[.int .i64 ua, .int .i64 un, .bool ut, .int .i64 ur, .bool false] 59)
            have hat := alloc_at w1 (.cells #[.int .i64 ua, .int .i64 un, .bool ut, .int .i64 t, .bool false] 59)
            have hb2 := below_new (w := w1) (.cells #[.int .i64 ua, .int .i64 un, .bool ut, .int .i64 t, .bool false] 59)
            have hb3 := below_new (w := w1.alloc (.cells #[.int .i64 ua, .int .i64 un, .bool ut, .int .i64 t, .bool false] 59)) (.cells #[.int .i64 ua, .int .i64 un, .bool ut, .int .i64 t, .bool false] 59)
            have hat2 := alloc_at (w1.alloc (.cells #[.int .i64 ua, .int .i64 un, .bool ut, .int .i64 t, .bool false] 59)) (.cells #[.int .i64 ua, .int .i64 un, .bool ut, .int .i64 t, .bool false] 59)
            have hbA := hb1.trans ((hb2.trans (hb3.mono (by rw [asz]; omega))).mono hb1.size)
            have hP := rset_any (HH.out.below hbA) HL.out HU.out (y := ⟨ua, un, ut, t, false⟩) hat2
            rw [asz] at hP
            have HP := Lib.hid hP
            have HBA := Lib.hid hbA
            have hatB := (hb3.block _ (heap_lt hat)).trans hat
            have HAT := Lib.hid hatB
            have HR1 := Lib.hid (show w1.heap.size ≠ r from fun e => by have := heap_lt h1.head; omega)
            clear hb1 h1 hb2 hb3 hat hat2 hbA hP HFI hatB
            go_wp2_with fail
            refine (HP.out).mono ?_
            rintro e w3 ⟨rfl, hp⟩
            obtain ⟨v3, h3, ht3, ho3⟩ := id hp
            have hat3 := (ht3.block _ (heap_lt HAT.out) HR1.out).trans HAT.out
            have HF := Lib.hid (hp.behind HBA.out)
            have HQ : Hid (w3.drew.cell? ⟨w1.heap.size, 1, none⟩ = some (.int .i64 un) ∧ w3.drew.cell? ⟨w1.heap.size, 2, none⟩ = some (.bool ut)) := Lib.hid ⟨cell_of hat3 1, cell_of hat3 2⟩
            clear hp h3 ht3 ho3 hat3 HP
            go_wp2_with fail
            refine wp_only ?_
            refine wp_region_held_drew (S := fun W => W.cell? ⟨w1.heap.size, 1, none⟩ = some (.int .i64 un) ∧ W.cell? ⟨w1.heap.size, 2, none⟩ = some (.bool ut)) (by kernel_rfl) HQ.out (fun hHeld => ?_)
            refine wpAnyH_take (i := 0) (oi := { dst := some 54, op := Op.fieldAddr 59 (Operand.tmp 8) 1, type := 0, pos := "ref.go:54", after := #[], guard := none }) (v := ?vv15) rfl (by kernel_rfl) (by kernel_rfl) (by kernel_rfl) (fun _ _ _ h => h) ?hy15 (by assumption) ?rest15
            case hy15 => (refine Or.inl ⟨by rfl, ?_⟩; intro W hSw; (try dsimp only at hSw); go_simp; (try with_reducible rfl))
            try simp only [Act.put, List.setIfInBounds_toArray, List.set_cons_zero, List.set_cons_succ]
            refine wpAnyH_take (i := 1) (oi := { dst := some 55, op := Op.load 2 (Operand.tmp 54), type := 2, pos := "ref.go:54", after := #[{ on := 0, ground := Ground.data }], guard := none }) (v := ?vv16) rfl (by kernel_rfl) (by kernel_rfl) (by kernel_rfl) (fun _ _ _ h => h) ?hy16 (by assumption) ?rest16
            case hy16 => (refine Or.inl ⟨by rfl, ?_⟩; intro W hSw; (try dsimp only at hSw); go_simp; (try with_reducible rfl))
            try simp only [Act.put, List.setIfInBounds_toArray, List.set_cons_zero, List.set_cons_succ]
            refine wpAnyH_take (i := 2) (oi := { dst := some 56, op := Op.fieldAddr 59 (Operand.tmp 8) 2, type := 0, pos := "ref.go:54", after := #[{ on := 4, ground := Ground.gcOnly Departure.lateStores }], guard := none }) (v := ?vv17) rfl (by kernel_rfl) (by kernel_rfl) (by kernel_rfl) (fun _ _ _ h => h) ?hy17 (by assumption) ?rest17
            case hy17 => (refine Or.inl ⟨by rfl, ?_⟩; intro W hSw; (try dsimp only at hSw); go_simp; (try with_reducible rfl))
            try simp only [Act.put, List.setIfInBounds_toArray, List.set_cons_zero, List.set_cons_succ]
            refine wpAnyH_take (i := 3) (oi := { dst := some 57, op := Op.load 4 (Operand.tmp 56), type := 4, pos := "ref.go:54", after := #[{ on := 2, ground := Ground.data }, { on := 4, ground := Ground.gcOnly Departure.lateStores }], guard := none }) (v := ?vv18) rfl (by kernel_rfl) (by kernel_rfl) (by kernel_rfl) (fun _ _ _ h => h) ?hy18 (by assumption) ?rest18
            case hy18 => (refine Or.inl ⟨by rfl, ?_⟩; intro W hSw; (try dsimp only at hSw); go_simp; (try with_reducible rfl))
            try simp only [Act.put, List.setIfInBounds_toArray, List.set_cons_zero, List.set_cons_succ]
            refine wpAnyH_take (i := 4) (oi := { dst := some 4, op := Op.assign (Operand.tmp 55), type := 2, pos := "ref.go:54", after := #[{ on := 1, ground := Ground.data }, { on := 0, ground := Ground.phase }, { on := 1, ground := Ground.phase }, { on := 2, ground := Ground.textOnly Departure.lateStores }, { on := 3, ground := Ground.textOnly Departure.lateStores }], guard := none }) (v := ?vv19) rfl (by kernel_rfl) (by kernel_rfl) (by kernel_rfl) (fun _ _ _ h => h) ?hy19 (by assumption) ?rest19
            case hy19 => (refine Or.inl ⟨by rfl, ?_⟩; intro W hSw; (try dsimp only at hSw); go_simp; (try with_reducible rfl))
            try simp only [Act.put, List.setIfInBounds_toArray, List.set_cons_zero, List.set_cons_succ]
            refine wpAnyH_take (i := 5) (oi := { dst := some 5, op := Op.assign (Operand.tmp 57), type := 4, pos := "ref.go:54", after := #[{ on := 3, ground := Ground.data }, { on := 4, ground := Ground.chain }, { on := 0, ground := Ground.phase }, { on := 1, ground := Ground.phase }, { on := 2, ground := Ground.phase }, { on := 3, ground := Ground.phase }, { on := 4, ground := Ground.phase }], guard := none }) (v := ?vv20) rfl (by kernel_rfl) (by kernel_rfl) (by kernel_rfl) (fun _ _ _ h => h) ?hy20 (by assumption) ?rest20
            case hy20 => (refine Or.inl ⟨by rfl, ?_⟩; intro W hSw; (try dsimp only at hSw); go_simp; (try with_reducible rfl))
            try simp only [Act.put, List.setIfInBounds_toArray, List.set_cons_zero, List.set_cons_succ]
            refine wpAnyH_take (i := 6) (oi := { dst := some 6, op := Op.assign (Operand.const (Value.int IntKind.i64 0)), type := 36, pos := "ref.go:54", after := #[{ on := 5, ground := Ground.chain }, { on := 0, ground := Ground.phase }, { on := 1, ground := Ground.phase }, { on := 2, ground := Ground.phase }, { on := 3, ground := Ground.phase }, { on := 4, ground := Ground.phase }, { on := 5, ground := Ground.phase }], guard := none }) (v := ?vv21) rfl (by kernel_rfl) (by kernel_rfl) (by kernel_rfl) (fun _ _ _ h => h) ?hy21 (by assumption) ?rest21
            case hy21 => (refine Or.inl ⟨by rfl, ?_⟩; intro W hSw; (try dsimp only at hSw); go_simp; (try with_reducible rfl))
            try simp only [Act.put, List.setIfInBounds_toArray, List.set_cons_zero, List.set_cons_succ]
            refine wpAnyH_done (by kernel_rfl) ?_ _
            clear hHeld
            dsimp only [onlyN]
            go_wp2_with fail
            (try simp only [Exit.inBlock, Exit.then])
            refine bodyPost_ret (v := .tuple #[.int .i64 un, .bool ut, .int .i64 0]) (by simp [results, Tryd.results25, go_sem]) rfl ?_
            exact ⟨rfl, HF.out.after (below_drew (Below.refl _ _))⟩
          · have hr : readP L t = (L, un, ut, 0) := by
              rw [hread, if_neg hat, if_neg (by simp), show max ur t = ur from by omega]
              have : L.set k ⟨ua, un, ut, ur, false⟩ = L := by
                have h5 := (List.getElem?_eq_some_iff.1 HU.out)
                obtain ⟨h6, h7⟩ := h5
                rw [← h7]
                exact List.set_getElem_self h6
              simp only
              rw [this]
            rw [hr]
            clear hread hr hmax hat
            go_enter Tryd.func25, Tryd.ntmps25
            go_wp2_with fail
            refine (HFI.out).mono ?_
            rintro e w1 ⟨rfl, hb1⟩
            have h1 := HH.out.below hb1
            obtain ⟨g, cap, rfl, hc1, hc2, _, k0, k1, k2, k3, k4⟩ := h1.row.ver HU.out
            have kr : w1.cell? ⟨r, 0, none⟩ = some (.slice (some ⟨g, 0, none⟩) L.length cap) := cell_of h1.head 0
            simp only at k0 k1 k2 k3 k4
            unfold maxLen at hc2
            have hb2 := below_new (w := w1) (.cells #[.int .i64 ua, .int .i64 un, .bool ut, .int .i64 ur, .bool false] 59)
            have HF := Lib.hid (RPost.same HH.out (hb1.trans (hb2.mono hb1.size)))
            have hat := alloc_at w1 (.cells #[.int .i64 ua, .int .i64 un, .bool ut, .int .i64 ur, .bool false] 59)
            have HQ : Hid ((w1.alloc (.cells #[.int .i64 ua, .int .i64 un, .bool ut, .int .i64 ur, .bool false] 59)).drew.cell? ⟨w1.heap.size, 1, none⟩ = some (.int .i64 un) ∧ (w1.alloc (.cells #[.int .i64 ua, .int .i64 un, .bool ut, .int .i64 ur, .bool false] 59)).drew.cell? ⟨w1.heap.size, 2, none⟩ = some (.bool ut)) := Lib.hid ⟨cell_of hat 1, cell_of hat 2⟩
            clear hb1 h1 hb2 HFI hat
            go_wp2_with fail
            refine wp_only ?_
            refine wp_region_held_drew (S := fun W => W.cell? ⟨w1.heap.size, 1, none⟩ = some (.int .i64 un) ∧ W.cell? ⟨w1.heap.size, 2, none⟩ = some (.bool ut)) (by kernel_rfl) HQ.out (fun hHeld => ?_)
            refine wpAnyH_take (i := 0) (oi := { dst := some 54, op := Op.fieldAddr 59 (Operand.tmp 8) 1, type := 0, pos := "ref.go:54", after := #[], guard := none }) (v := ?vv22) rfl (by kernel_rfl) (by kernel_rfl) (by kernel_rfl) (fun _ _ _ h => h) ?hy22 (by assumption) ?rest22
            case hy22 => (refine Or.inl ⟨by rfl, ?_⟩; intro W hSw; (try dsimp only at hSw); go_simp; (try with_reducible rfl))
            try simp only [Act.put, List.setIfInBounds_toArray, List.set_cons_zero, List.set_cons_succ]
            refine wpAnyH_take (i := 1) (oi := { dst := some 55, op := Op.load 2 (Operand.tmp 54), type := 2, pos := "ref.go:54", after := #[{ on := 0, ground := Ground.data }], guard := none }) (v := ?vv23) rfl (by kernel_rfl) (by kernel_rfl) (by kernel_rfl) (fun _ _ _ h => h) ?hy23 (by assumption) ?rest23
            case hy23 => (refine Or.inl ⟨by rfl, ?_⟩; intro W hSw; (try dsimp only at hSw); go_simp; (try with_reducible rfl))
            try simp only [Act.put, List.setIfInBounds_toArray, List.set_cons_zero, List.set_cons_succ]
            refine wpAnyH_take (i := 2) (oi := { dst := some 56, op := Op.fieldAddr 59 (Operand.tmp 8) 2, type := 0, pos := "ref.go:54", after := #[{ on := 4, ground := Ground.gcOnly Departure.lateStores }], guard := none }) (v := ?vv24) rfl (by kernel_rfl) (by kernel_rfl) (by kernel_rfl) (fun _ _ _ h => h) ?hy24 (by assumption) ?rest24
            case hy24 => (refine Or.inl ⟨by rfl, ?_⟩; intro W hSw; (try dsimp only at hSw); go_simp; (try with_reducible rfl))
            try simp only [Act.put, List.setIfInBounds_toArray, List.set_cons_zero, List.set_cons_succ]
            refine wpAnyH_take (i := 3) (oi := { dst := some 57, op := Op.load 4 (Operand.tmp 56), type := 4, pos := "ref.go:54", after := #[{ on := 2, ground := Ground.data }, { on := 4, ground := Ground.gcOnly Departure.lateStores }], guard := none }) (v := ?vv25) rfl (by kernel_rfl) (by kernel_rfl) (by kernel_rfl) (fun _ _ _ h => h) ?hy25 (by assumption) ?rest25
            case hy25 => (refine Or.inl ⟨by rfl, ?_⟩; intro W hSw; (try dsimp only at hSw); go_simp; (try with_reducible rfl))
            try simp only [Act.put, List.setIfInBounds_toArray, List.set_cons_zero, List.set_cons_succ]
            refine wpAnyH_take (i := 4) (oi := { dst := some 4, op := Op.assign (Operand.tmp 55), type := 2, pos := "ref.go:54", after := #[{ on := 1, ground := Ground.data }, { on := 0, ground := Ground.phase }, { on := 1, ground := Ground.phase }, { on := 2, ground := Ground.textOnly Departure.lateStores }, { on := 3, ground := Ground.textOnly Departure.lateStores }], guard := none }) (v := ?vv26) rfl (by kernel_rfl) (by kernel_rfl) (by kernel_rfl) (fun _ _ _ h => h) ?hy26 (by assumption) ?rest26
            case hy26 => (refine Or.inl ⟨by rfl, ?_⟩; intro W hSw; (try dsimp only at hSw); go_simp; (try with_reducible rfl))
            try simp only [Act.put, List.setIfInBounds_toArray, List.set_cons_zero, List.set_cons_succ]
            refine wpAnyH_take (i := 5) (oi := { dst := some 5, op := Op.assign (Operand.tmp 57), type := 4, pos := "ref.go:54", after := #[{ on := 3, ground := Ground.data }, { on := 4, ground := Ground.chain }, { on := 0, ground := Ground.phase }, { on := 1, ground := Ground.phase }, { on := 2, ground := Ground.phase }, { on := 3, ground := Ground.phase }, { on := 4, ground := Ground.phase }], guard := none }) (v := ?vv27) rfl (by kernel_rfl) (by kernel_rfl) (by kernel_rfl) (fun _ _ _ h => h) ?hy27 (by assumption) ?rest27
            case hy27 => (refine Or.inl ⟨by rfl, ?_⟩; intro W hSw; (try dsimp only at hSw); go_simp; (try with_reducible rfl))
            try simp only [Act.put, List.setIfInBounds_toArray, List.set_cons_zero, List.set_cons_succ]
            refine wpAnyH_take (i := 6) (oi := { dst := some 6, op := Op.assign (Operand.const (Value.int IntKind.i64 0)), type := 36, pos := "ref.go:54", after := #[{ on := 5, ground := Ground.chain }, { on := 0, ground := Ground.phase }, { on := 1, ground := Ground.phase }, { on := 2, ground := Ground.phase }, { on := 3, ground := Ground.phase }, { on := 4, ground := Ground.phase }, { on := 5, ground := Ground.phase }], guard := none }) (v := ?vv28) rfl (by kernel_rfl) (by kernel_rfl) (by kernel_rfl) (fun _ _ _ h => h) ?hy28 (by assumption) ?rest28
            case hy28 => (refine Or.inl ⟨by rfl, ?_⟩; intro W hSw; (try dsimp only at hSw); go_simp; (try with_reducible rfl))
            try simp only [Act.put, List.setIfInBounds_toArray, List.set_cons_zero, List.set_cons_succ]
            refine wpAnyH_done (by kernel_rfl) ?_ _
            clear hHeld
            dsimp only [onlyN]
            go_wp2_with fail
            (try simp only [Exit.inBlock, Exit.then])
            refine bodyPost_ret (v := .tuple #[.int .i64 un, .bool ut, .int .i64 0]) (by simp [results, Tryd.results25, go_sem]) rfl ?_
            exact ⟨rfl, HF.out.after (below_drew (Below.refl _ _))⟩
end Go.Proofs.YtmaokoekbjjgfaaDoor
