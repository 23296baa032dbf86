/- The reference's Write, in memory. -/
import Derived.Test.YtmaokoekbjjgfaaDoorZChdC
set_option linter.unusedSimpArgs false
set_option linter.unusedVariables false
set_option linter.unnecessarySimpa false
namespace Go.Proofs.YtmaokoekbjjgfaaDoor
open Go.RowKit Go.Shelf

/-- Who is open was read by nobody else. -/
def OpnOk (L : List Ver) : Prop := ∀ u ∈ L, u.opn = true → u.read = 0
set_option maxRecDepth 100000 in
set_option maxHeartbeats 8000000 in
theorem rwrite_true {w : World} {r : Nat} {v : Value} {L : List Ver} {t n : Int} (h : RAt w r v L) (hR : Ris L) (hl : L.length ≤ 1000000) (hO : OpnOk L) :
    Calls Tryd.prog 26 #[.pointer (some ⟨r, 0, none⟩), .int .i64 t, .int .i64 n, .bool true] w fun e w' => e = .returned (.int .i64 (writeP L t n true).2) ∧ RPost w r v (writeP L t n true).1 w' := by
  by_cases ho : okT t = false
  · have hr : writeP L t n true = (L, 2) := by unfold writeP; rw [if_pos ho]
    rw [hr]
    have HF := Lib.hid (RPost.same h (Below.refl _ w))
    have ho' := okT_no ho
    clear h hR ho hr
    by_cases h1 : t < 1
    · go_enter Tryd.func26, Tryd.ntmps26
      go_wp2_with fail
      go_ret
      exact ⟨rfl, HF.out⟩
    · have h2 : 1073741824 < t := by omega
      go_enter Tryd.func26, Tryd.ntmps26
      go_wp2_with fail
      go_ret
      exact ⟨rfl, HF.out⟩
  · obtain ⟨o1, o2⟩ := okT_yes ho
    by_cases hz : cnt L t = 0
    · have hr : writeP L t n true = (L, 22) := by unfold writeP; rw [if_neg ho, if_pos hz]
      rw [hr]
      have hf := rfind_any (t := t) h hR hl
      rw [hz] at hf
      have HFI : Hid (Calls Tryd.prog 37 #[.pointer (some ⟨r, 0, none⟩), .int .i64 t] w fun e w' => e = .returned (.int .i64 (-1)) ∧ Below w.heap.size w w') := Lib.hid hf
      have HH := Lib.hid h
      clear h hR ho hr hz hf
      go_enter Tryd.func26, Tryd.ntmps26
      go_wp2_with fail
      refine (HFI.out).mono ?_
      rintro e w1 ⟨rfl, hb1⟩
      have HF := Lib.hid (RPost.same HH.out hb1)
      clear hb1 HFI
      go_wp2_with fail
      go_ret
      exact ⟨rfl, HF.out⟩
    · obtain ⟨k, hk⟩ : ∃ k, cnt L t = k + 1 := ⟨cnt L t - 1, by omega⟩
      have hcl := cnt_le L t
      have hu : L[k]? = some (L[k]'(by omega)) := List.getElem?_eq_getElem _
      generalize L[k]'(by omega) = u at hu
      have hu1 : L[cnt L t - 1]? = some u := by rw [hk]; exact hu
      have hf := rfind_any (t := t) h hR hl
      rw [hk, show (((k + 1 : Nat) : Int) - 1) = (k : Int) from by omega] at hf
      have HFI := Lib.hid hf
      have HH := Lib.hid h
      have HU := Lib.hid hu
      have hkI : (k : Int) < (L.length : Int) := by omega
      have hk0 : ¬ (k : Int) < 0 := by omega
      have hlI : (L.length : Int) ≤ 1000000 := by omega
      have HL := Lib.hid hl
      have hwrite : writeP L t n true = if t < u.read ∨ (u.at_ = t ∧ u.opn = false) then (L, 22) else if u.at_ = t then (L.set k { u with n := n, there := true }, 0) else (L.take (k + 1) ++ { at_ := t, n := n, there := true, read := 0, opn := true } :: L.drop (k + 1), 0) := by
        unfold writeP
        rw [if_neg ho, if_neg hz, hu1]
        simp only [hk]
        rfl
      have hopn := hO u (List.mem_of_getElem? hu)
      clear hf h hR ho hz hu1 hcl hk hO
      obtain ⟨ua, un, ut, ur, uo⟩ := u
      by_cases hur : t < ur
      · have hr : writeP L t n true = (L, 22) := by rw [hwrite, if_pos (.inl hur)]
        rw [hr]
        clear hwrite hr hopn
        go_enter Tryd.func26, Tryd.ntmps26
        go_wp2_with fail
        refine (HFI.out).mono ?_
        rintro e w1 ⟨rfl, hb1⟩
        have h1 := HH.out.below hb1
        obtain ⟨g, cap, rfl, hc1, hc2, _, k0, k1, k2, k3, k4⟩ := h1.row.ver HU.out
        have kr : w1.cell? ⟨r, 0, none⟩ = some (.slice (some ⟨g, 0, none⟩) L.length cap) := cell_of h1.head 0
        simp only at k0 k1 k2 k3 k4
        unfold maxLen at hc2
        have HF := Lib.hid (RPost.same HH.out hb1)
        clear hb1 h1 HFI
        go_wp2_with fail
        go_ret
        exact ⟨rfl, HF.out⟩
      · by_cases hat : ua = t
        · have hq : (ua == t) = true := by rw [hat]; exact beq_self_eq_true t
          cases uo with
          | false =>
            have hr : writeP L t n true = (L, 22) := by rw [hwrite, if_pos (.inr ⟨hat, rfl⟩)]
            rw [hr]
            clear hwrite hr hopn
            replace hat := hat.symm
            subst hat
            go_enter Tryd.func26, Tryd.ntmps26
            go_wp2_with fail
            refine (HFI.out).mono ?_
            rintro e w1 ⟨rfl, hb1⟩
            have h1 := HH.out.below hb1
            obtain ⟨g, cap, rfl, hc1, hc2, _, k0, k1, k2, k3, k4⟩ := h1.row.ver HU.out
            have kr : w1.cell? ⟨r, 0, none⟩ = some (.slice (some ⟨g, 0, none⟩) L.length cap) := cell_of h1.head 0
            simp only at k0 k1 k2 k3 k4
            unfold maxLen at hc2
            have HF := Lib.hid (RPost.same HH.out hb1)
            clear hb1 h1 HFI
            go_wp2_with fail
            go_ret
            exact ⟨rfl, HF.out⟩
          | true =>
            have hur0 : ur = 0 := hopn rfl
            subst hur0
            have hr : writeP L t n true = (L.set k ⟨t, n, true, 0, true⟩, 0) := by
              rw [hwrite, if_neg (by rintro (e | ⟨_, e⟩); exact hur e; cases e), if_pos hat]
              simp only [hat]
            rw [hr]
            clear hwrite hr hopn
            replace hat := hat.symm
            subst hat
            go_enter Tryd.func26, Tryd.ntmps26
            go_wp2_with fail
            refine (HFI.out).mono ?_
            rintro e w1 ⟨rfl, hb1⟩
            have h1 := HH.out.below hb1
            obtain ⟨g, cap, rfl, hc1, hc2, _, k0, k1, k2, k3, k4⟩ := h1.row.ver HU.out
            have kr : w1.cell? ⟨r, 0, none⟩ = some (.slice (some ⟨g, 0, none⟩) L.length cap) := cell_of h1.head 0
            simp only at k0 k1 k2 k3 k4
            unfold maxLen at hc2
            have hat := alloc_at w1 (.cells #[.int .i64 t, .int .i64 n, .bool true, .int .i64 0, .bool true] 59)
            have hb2 := below_new (w := w1) (.cells #[.int .i64 t, .int .i64 n, .bool true, .int .i64 0, .bool true] 59)
            have hb3 := below_new (w := w1.alloc (.cells #[.int .i64 t, .int .i64 n, .bool true, .int .i64 0, .bool true] 59)) (.cells #[.int .i64 t, .int .i64 n, .bool true, .int .i64 0, .bool true] 59)
            have hat2 := alloc_at (w1.alloc (.cells #[.int .i64 t, .int .i64 n, .bool true, .int .i64 0, .bool true] 59)) (.cells #[.int .i64 t, .int .i64 n, .bool true, .int .i64 0, .bool true] 59)
            have hbA := hb1.trans ((hb2.trans (hb3.mono (by rw [asz]; omega))).mono hb1.size)
            have hP := rset_any (HH.out.below hbA) HL.out HU.out (y := ⟨t, n, true, 0, true⟩) hat2
            rw [asz] at hP
            have HP := Lib.hid hP
            have HBA := Lib.hid hbA
            have kr2 : (w1.alloc (.cells #[.int .i64 t, .int .i64 n, .bool true, .int .i64 0, .bool true] 59)).cell? ⟨r, 0, none⟩ = some (.slice (some ⟨g, 0, none⟩) L.length cap) := (hb2.cell (p := ⟨r, 0, none⟩) (World.block_lt_of_cell? _ _ kr)).trans kr
            have k02 : (w1.alloc (.cells #[.int .i64 t, .int .i64 n, .bool true, .int .i64 0, .bool true] 59)).cell? ⟨g, k * 5, none⟩ = some (.int .i64 t) := (hb2.cell (p := ⟨g, k * 5, none⟩) (World.block_lt_of_cell? _ _ k0)).trans k0
            clear hb1 h1 hb2 hb3 hat hat2 hbA hP HFI
            go_wp2_with fail
            refine (HP.out).mono ?_
            rintro e w3 ⟨rfl, hp⟩
            have HF := Lib.hid (hp.behind HBA.out)
            clear hp HP
            go_wp2_with fail
            go_ret
            exact ⟨rfl, HF.out⟩
        · have hq : (ua == t) = false := by rw [beq_eq_false_iff_ne]; exact hat
          have hne : ¬ ua = t := hat
          have hr : writeP L t n true = (L.take (k + 1) ++ ⟨t, n, true, 0, true⟩ :: L.drop (k + 1), 0) := by
            rw [hwrite, if_neg (by rintro (e | ⟨e, _⟩); exact hur e; exact hat e), if_neg hat]
          rw [hr]
          clear hwrite hr hopn hat
          go_enter Tryd.func26, Tryd.ntmps26
          go_wp2_with fail
          refine (HFI.out).mono ?_
          rintro e w1 ⟨rfl, hb1⟩
          have h1 := HH.out.below hb1
          obtain ⟨g, cap, rfl, hc1, hc2, _, k0, k1, k2, k3, k4⟩ := h1.row.ver HU.out
          have kr : w1.cell? ⟨r, 0, none⟩ = some (.slice (some ⟨g, 0, none⟩) L.length cap) := cell_of h1.head 0
          simp only at k0 k1 k2 k3 k4
          unfold maxLen at hc2
          have hat := alloc_at w1 (.cells #[.int .i64 t, .int .i64 n, .bool true, .int .i64 0, .bool true] 59)
          have hb2 := below_new (w := w1) (.cells #[.int .i64 t, .int .i64 n, .bool true, .int .i64 0, .bool true] 59)
          have hb3 := below_new (w := w1.alloc (.cells #[.int .i64 t, .int .i64 n, .bool true, .int .i64 0, .bool true] 59)) (.cells #[.int .i64 t, .int .i64 n, .bool true, .int .i64 0, .bool true] 59)
          have hat2 := alloc_at (w1.alloc (.cells #[.int .i64 t, .int .i64 n, .bool true, .int .i64 0, .bool true] 59)) (.cells #[.int .i64 t, .int .i64 n, .bool true, .int .i64 0, .bool true] 59)
          have hbA := hb1.trans ((hb2.trans (hb3.mono (by rw [asz]; omega))).mono hb1.size)
          have hP := rins_any (HH.out.below hbA) HL.out HU.out (y := ⟨t, n, true, 0, true⟩) hat2
          rw [asz] at hP
          have HP := Lib.hid hP
          have HBA := Lib.hid hbA
          have kr2 : (w1.alloc (.cells #[.int .i64 t, .int .i64 n, .bool true, .int .i64 0, .bool true] 59)).cell? ⟨r, 0, none⟩ = some (.slice (some ⟨g, 0, none⟩) L.length cap) := (hb2.cell (p := ⟨r, 0, none⟩) (World.block_lt_of_cell? _ _ kr)).trans kr
          have k02 : (w1.alloc (.cells #[.int .i64 t, .int .i64 n, .bool true, .int .i64 0, .bool true] 59)).cell? ⟨g, k * 5, none⟩ = some (.int .i64 ua) := (hb2.cell (p := ⟨g, k * 5, none⟩) (World.block_lt_of_cell? _ _ k0)).trans k0
          clear hb1 h1 hb2 hb3 hat hat2 hbA hP HFI
          go_wp2_with fail
          refine (HP.out).mono ?_
          rintro e w3 ⟨rfl, hp⟩
          have HF := Lib.hid (hp.behind HBA.out)
          clear hp HP
          go_wp2_with fail
          go_ret
          exact ⟨rfl, HF.out⟩
set_option maxRecDepth 100000 in
set_option maxHeartbeats 8000000 in
theorem rwrite_false {w : World} {r : Nat} {v : Value} {L : List Ver} {t n : Int} (h : RAt w r v L) (hR : Ris L) (hl : L.length ≤ 1000000) (hO : OpnOk L) :
    Calls Tryd.prog 26 #[.pointer (some ⟨r, 0, none⟩), .int .i64 t, .int .i64 n, .bool false] w fun e w' => e = .returned (.int .i64 (writeP L t n false).2) ∧ RPost w r v (writeP L t n false).1 w' := by
  by_cases ho : okT t = false
  · have hr : writeP L t n false = (L, 2) := by unfold writeP; rw [if_pos ho]
    rw [hr]
    have HF := Lib.hid (RPost.same h (Below.refl _ w))
    have ho' := okT_no ho
    clear h hR ho hr
    by_cases h1 : t < 1
    · go_enter Tryd.func26, Tryd.ntmps26
      go_wp2_with fail
      go_ret
      exact ⟨rfl, HF.out⟩
    · have h2 : 1073741824 < t := by omega
      go_enter Tryd.func26, Tryd.ntmps26
      go_wp2_with fail
      go_ret
      exact ⟨rfl, HF.out⟩
  · obtain ⟨o1, o2⟩ := okT_yes ho
    by_cases hz : cnt L t = 0
    · have hr : writeP L t n false = (L, 22) := by unfold writeP; rw [if_neg ho, if_pos hz]
      rw [hr]
      have hf := rfind_any (t := t) h hR hl
      rw [hz] at hf
      have HFI : Hid (Calls Tryd.prog 37 #[.pointer (some ⟨r, 0, none⟩), .int .i64 t] w fun e w' => e = .returned (.int .i64 (-1)) ∧ Below w.heap.size w w') := Lib.hid hf
      have HH := Lib.hid h
      clear h hR ho hr hz hf
      go_enter Tryd.func26, Tryd.ntmps26
      go_wp2_with fail
      refine (HFI.out).mono ?_
      rintro e w1 ⟨rfl, hb1⟩
      have HF := Lib.hid (RPost.same HH.out hb1)
      clear hb1 HFI
      go_wp2_with fail
      go_ret
      exact ⟨rfl, HF.out⟩
    · obtain ⟨k, hk⟩ : ∃ k, cnt L t = k + 1 := ⟨cnt L t - 1, by omega⟩
      have hcl := cnt_le L t
      have hu : L[k]? = some (L[k]'(by omega)) := List.getElem?_eq_getElem _
      generalize L[k]'(by omega) = u at hu
      have hu1 : L[cnt L t - 1]? = some u := by rw [hk]; exact hu
      have hf := rfind_any (t := t) h hR hl
      rw [hk, show (((k + 1 : Nat) : Int) - 1) = (k : Int) from by omega] at hf
      have HFI := Lib.hid hf
      have HH := Lib.hid h
      have HU := Lib.hid hu
      have hkI : (k : Int) < (L.length : Int) := by omega
      have hk0 : ¬ (k : Int) < 0 := by omega
      have hlI : (L.length : Int) ≤ 1000000 := by omega
      have HL := Lib.hid hl
      have hwrite : writeP L t n false = if t < u.read ∨ (u.at_ = t ∧ u.opn = false) then (L, 22) else if u.at_ = t then (L.set k { u with n := 0, there := false }, 0) else (L.take (k + 1) ++ { at_ := t, n := 0, there := false, read := 0, opn := true } :: L.drop (k + 1), 0) := by
        unfold writeP
        rw [if_neg ho, if_neg hz, hu1]
        simp only [hk]
        rfl
      have hopn := hO u (List.mem_of_getElem? hu)
      clear hf h hR ho hz hu1 hcl hk hO
      obtain ⟨ua, un, ut, ur, uo⟩ := u
      by_cases hur : t < ur
      · have hr : writeP L t n false = (L, 22) := by rw [hwrite, if_pos (.inl hur)]
        rw [hr]
        clear hwrite hr hopn
        go_enter Tryd.func26, Tryd.ntmps26
        go_wp2_with fail
        refine (HFI.out).mono ?_
        rintro e w1 ⟨rfl, hb1⟩
        have h1 := HH.out.below hb1
        obtain ⟨g, cap, rfl, hc1, hc2, _, k0, k1, k2, k3, k4⟩ := h1.row.ver HU.out
        have kr : w1.cell? ⟨r, 0, none⟩ = some (.slice (some ⟨g, 0, none⟩) L.length cap) := cell_of h1.head 0
        simp only at k0 k1 k2 k3 k4
        unfold maxLen at hc2
        have HF := Lib.hid (RPost.same HH.out hb1)
        clear hb1 h1 HFI
        go_wp2_with fail
        go_ret
        exact ⟨rfl, HF.out⟩
      · by_cases hat : ua = t
        · have hq : (ua == t) = true := by rw [hat]; exact beq_self_eq_true t
          cases uo with
          | false =>
            have hr : writeP L t n false = (L, 22) := by rw [hwrite, if_pos (.inr ⟨hat, rfl⟩)]
            rw [hr]
            clear hwrite hr hopn
            replace hat := hat.symm
            subst hat
            go_enter Tryd.func26, Tryd.ntmps26
            go_wp2_with fail
            refine (HFI.out).mono ?_
            rintro e w1 ⟨rfl, hb1⟩
            have h1 := HH.out.below hb1
            obtain ⟨g, cap, rfl, hc1, hc2, _, k0, k1, k2, k3, k4⟩ := h1.row.ver HU.out
            have kr : w1.cell? ⟨r, 0, none⟩ = some (.slice (some ⟨g, 0, none⟩) L.length cap) := cell_of h1.head 0
            simp only at k0 k1 k2 k3 k4
            unfold maxLen at hc2
            have HF := Lib.hid (RPost.same HH.out hb1)
            clear hb1 h1 HFI
            go_wp2_with fail
            go_ret
            exact ⟨rfl, HF.out⟩
          | true =>
            have hur0 : ur = 0 := hopn rfl
            subst hur0
            have hr : writeP L t n false = (L.set k ⟨t, 0, false, 0, true⟩, 0) := by
              rw [hwrite, if_neg (by rintro (e | ⟨_, e⟩); exact hur e; cases e), if_pos hat]
              simp only [hat]
            rw [hr]
            clear hwrite hr hopn
            replace hat := hat.symm
            subst hat
            go_enter Tryd.func26, Tryd.ntmps26
            go_wp2_with fail
            refine (HFI.out).mono ?_
            rintro e w1 ⟨rfl, hb1⟩
            have h1 := HH.out.below hb1
            obtain ⟨g, cap, rfl, hc1, hc2, _, k0, k1, k2, k3, k4⟩ := h1.row.ver HU.out
            have kr : w1.cell? ⟨r, 0, none⟩ = some (.slice (some ⟨g, 0, none⟩) L.length cap) := cell_of h1.head 0
            simp only at k0 k1 k2 k3 k4
            unfold maxLen at hc2
            have hat := alloc_at w1 (.cells #[.int .i64 t, .int .i64 0, .bool false, .int .i64 0, .bool true] 59)
            have hb2 := below_new (w := w1) (.cells #[.int .i64 t, .int .i64 0, .bool false, .int .i64 0, .bool true] 59)
            have hb3 := below_new (w := w1.alloc (.cells #[.int .i64 t, .int .i64 0, .bool false, .int .i64 0, .bool true] 59)) (.cells #[.int .i64 t, .int .i64 0, .bool false, .int .i64 0, .bool true] 59)
            have hat2 := alloc_at (w1.alloc (.cells #[.int .i64 t, .int .i64 0, .bool false, .int .i64 0, .bool true] 59)) (.cells #[.int .i64 t, .int .i64 0, .bool false, .int .i64 0, .bool true] 59)
            have hbA := hb1.trans ((hb2.trans (hb3.mono (by rw [asz]; omega))).mono hb1.size)
            have hP := rset_any (HH.out.below hbA) HL.out HU.out (y := ⟨t, 0, false, 0, true⟩) hat2
            rw [asz] at hP
            have HP := Lib.hid hP
            have HBA := Lib.hid hbA
            have kr2 : (w1.alloc (.cells #[.int .i64 t, .int .i64 0, .bool false, .int .i64 0, .bool true] 59)).cell? ⟨r, 0, none⟩ = some (.slice (some ⟨g, 0, none⟩) L.length cap) := (hb2.cell (p := ⟨r, 0, none⟩) (World.block_lt_of_cell? _ _ kr)).trans kr
            have k02 : (w1.alloc (.cells #[.int .i64 t, .int .i64 0, .bool false, .int .i64 0, .bool true] 59)).cell? ⟨g, k * 5, none⟩ = some (.int .i64 t) := (hb2.cell (p := ⟨g, k * 5, none⟩) (World.block_lt_of_cell? _ _ k0)).trans k0
            clear hb1 h1 hb2 hb3 hat hat2 hbA hP HFI
            go_wp2_with fail
            refine (HP.out).mono ?_
            rintro e w3 ⟨rfl, hp⟩
            have HF := Lib.hid (hp.behind HBA.out)
            clear hp HP
            go_wp2_with fail
            go_ret
            exact ⟨rfl, HF.out⟩
        · have hq : (ua == t) = false := by rw [beq_eq_false_iff_ne]; exact hat
          have hne : ¬ ua = t := hat
          have hr : writeP L t n false = (L.take (k + 1) ++ ⟨t, 0, false, 0, true⟩ :: L.drop (k + 1), 0) := by
            rw [hwrite, if_neg (by rintro (e | ⟨e, _⟩); exact hur e; exact hat e), if_neg hat]
          rw [hr]
          clear hwrite hr hopn hat
          go_enter Tryd.func26, Tryd.ntmps26
          go_wp2_with fail
          refine (HFI.out).mono ?_
          rintro e w1 ⟨rfl, hb1⟩
          have h1 := HH.out.below hb1
          obtain ⟨g, cap, rfl, hc1, hc2, _, k0, k1, k2, k3, k4⟩ := h1.row.ver HU.out
          have kr : w1.cell? ⟨r, 0, none⟩ = some (.slice (some ⟨g, 0, none⟩) L.length cap) := cell_of h1.head 0
          simp only at k0 k1 k2 k3 k4
          unfold maxLen at hc2
          have hat := alloc_at w1 (.cells #[.int .i64 t, .int .i64 0, .bool false, .int .i64 0, .bool true] 59)
          have hb2 := below_new (w := w1) (.cells #[.int .i64 t, .int .i64 0, .bool false, .int .i64 0, .bool true] 59)
          have hb3 := below_new (w := w1.alloc (.cells #[.int .i64 t, .int .i64 0, .bool false, .int .i64 0, .bool true] 59)) (.cells #[.int .i64 t, .int .i64 0, .bool false, .int .i64 0, .bool true] 59)
          have hat2 := alloc_at (w1.alloc (.cells #[.int .i64 t, .int .i64 0, .bool false, .int .i64 0, .bool true] 59)) (.cells #[.int .i64 t, .int .i64 0, .bool false, .int .i64 0, .bool true] 59)
          have hbA := hb1.trans ((hb2.trans (hb3.mono (by rw [asz]; omega))).mono hb1.size)
          have hP := rins_any (HH.out.below hbA) HL.out HU.out (y := ⟨t, 0, false, 0, true⟩) hat2
          rw [asz] at hP
          have HP := Lib.hid hP
          have HBA := Lib.hid hbA
          have kr2 : (w1.alloc (.cells #[.int .i64 t, .int .i64 0, .bool false, .int .i64 0, .bool true] 59)).cell? ⟨r, 0, none⟩ = some (.slice (some ⟨g, 0, none⟩) L.length cap) := (hb2.cell (p := ⟨r, 0, none⟩) (World.block_lt_of_cell? _ _ kr)).trans kr
          have k02 : (w1.alloc (.cells #[.int .i64 t, .int .i64 0, .bool false, .int .i64 0, .bool true] 59)).cell? ⟨g, k * 5, none⟩ = some (.int .i64 ua) := (hb2.cell (p := ⟨g, k * 5, none⟩) (World.block_lt_of_cell? _ _ k0)).trans k0
          clear hb1 h1 hb2 hb3 hat hat2 hbA hP HFI
          go_wp2_with fail
          refine (HP.out).mono ?_
          rintro e w3 ⟨rfl, hp⟩
          have HF := Lib.hid (hp.behind HBA.out)
          clear hp HP
          go_wp2_with fail
          go_ret
          exact ⟨rfl, HF.out⟩
theorem rwrite_any {w : World} {r : Nat} {v : Value} {L : List Ver} {t n : Int} {th : Bool} (h : RAt w r v L) (hR : Ris L) (hl : L.length ≤ 1000000) (hO : OpnOk L) :
    Calls Tryd.prog 26 #[.pointer (some ⟨r, 0, none⟩), .int .i64 t, .int .i64 n, .bool th] w fun e w' => e = .returned (.int .i64 (writeP L t n th).2) ∧ RPost w r v (writeP L t n th).1 w' := by
  cases th
  · exact rwrite_false h hR hl hO
  · exact rwrite_true h hR hl hO
end Go.Proofs.YtmaokoekbjjgfaaDoor
