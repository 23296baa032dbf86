/- order: the chapter's example. -/
import Derived.Test.YtlbhpeeggbfcpaaZOrdR
import Derived.Test.YtlbhpeeggbfcpaaZOrdI
set_option linter.unusedSimpArgs false
set_option linter.unusedVariables false
set_option linter.unnecessarySimpa false
namespace Go.Proofs.Ytlbhpeeggbfcpaa
open Go.RowKit

def uEx : Gr := [(1, [0, 1]), (2, [1])]
def tE1 : List Tk := [⟨1, 0, 5⟩, ⟨2, 0, 7⟩, ⟨2, 1, 3⟩, ⟨1, 1, 4⟩]
def tE2 : List Tk := [⟨3, 0, 5⟩, ⟨2, 0, 7⟩, ⟨1, 1, 4⟩]
theorem tE1_cert {o : List Int} {b : Bool} (h : certP tE1 o b) : b = false :=
  (certP_uniq h (p := []) (c := false) ⟨fun _ => by decide, fun _ => rfl, fun _ => rfl⟩).2
theorem tE2_cert {o : List Int} {b : Bool} (h : certP tE2 o b) : o = [1, 3, 2] ∧ b = true :=
  certP_uniq h (p := [1, 3, 2]) (c := true) ⟨fun _ => by decide, fun e => absurd (by unfold OnceP tE2; simp) e, fun e => by cases e⟩
theorem uE_waits : waitsP uEx = [(2, 1)] := by decide
theorem uE_m1 : mayP 2 1 uEx = false := by decide
theorem uE_m2 : mayP 1 1 uEx = true := by decide
theorem uE_m3 : mayP 2 2 uEx = true := by decide
theorem rowlit {W : World} {z n a : Nat} {l : List Value} {t : TypeId} (h : W.heap[a]? = some (.cells l.toArray t (0, 0))) (hl : l.length = n * z) (hm : n ≤ maxLen) : RowIs W z (.slice (some ⟨a, 0, none⟩) n n) n l := by
  refine .inr ⟨a, n, rfl, hl, Nat.le_refl _, heap_lt h, by rw [hl]; exact Nat.le_refl _, hm, fun j b hj => ?_, fun j hj => ⟨?_, free0 h j⟩⟩
  · rw [cell_of h]
    simpa using hj
  · rw [cell_of h]
    have : j < l.length := by rw [hl]; exact hj
    simp [this]
def wEx (w : World) : World := ((w.alloc (.cells #[.int .i64 0, .int .i64 1] 3)).alloc (.cells #[.int .i64 1] 3)).alloc (.cells #[.int .i64 1, .slice (some ⟨w.heap.size, 0, none⟩) 2 2, .int .i64 2, .slice (some ⟨w.heap.size + 1, 0, none⟩) 1 1] 61)
theorem uEx_at (w : World) : UIs (wEx w) (.slice (some ⟨w.heap.size + 1 + 1, 0, none⟩) 2 2) uEx ∧ Below w.heap.size w (wEx w) := by
  have b1 := below_new (w := w) (.cells #[.int .i64 0, .int .i64 1] 3)
  have a1 := alloc_at w (.cells #[.int .i64 0, .int .i64 1] 3)
  have z1 : (w.alloc (.cells #[.int .i64 0, .int .i64 1] 3)).heap.size = w.heap.size + 1 := asz _ _
  unfold wEx
  generalize w.alloc (.cells #[.int .i64 0, .int .i64 1] 3) = w1 at *
  have b2 := below_new (w := w1) (.cells #[.int .i64 1] 3)
  have a2 := alloc_at w1 (.cells #[.int .i64 1] 3)
  have z2 : (w1.alloc (.cells #[.int .i64 1] 3)).heap.size = w1.heap.size + 1 := asz _ _
  generalize w1.alloc (.cells #[.int .i64 1] 3) = w2 at *
  have b3 := below_new (w := w2) (.cells #[.int .i64 1, .slice (some ⟨w.heap.size, 0, none⟩) 2 2, .int .i64 2, .slice (some ⟨w.heap.size + 1, 0, none⟩) 1 1] 61)
  have a3 := alloc_at w2 (.cells #[.int .i64 1, .slice (some ⟨w.heap.size, 0, none⟩) 2 2, .int .i64 2, .slice (some ⟨w.heap.size + 1, 0, none⟩) 1 1] 61)
  generalize w2.alloc (.cells #[.int .i64 1, .slice (some ⟨w.heap.size, 0, none⟩) 2 2, .int .i64 2, .slice (some ⟨w.heap.size + 1, 0, none⟩) 1 1] 61) = w3 at *
  have e2 : w2.heap.size = w.heap.size + 1 + 1 := by omega
  rw [z1] at a2
  rw [e2] at a3
  have s1 : SIs w3 (.slice (some ⟨w.heap.size, 0, none⟩) 2 2) [0, 1] := (((rowlit (W := w1) (z := 1) (l := [.int .i64 0, .int .i64 1]) a1 rfl (by unfold maxLen; decide)).below b2).below b3).sis (l := [0, 1])
  have s2 : SIs w3 (.slice (some ⟨w.heap.size + 1, 0, none⟩) 1 1) [1] := ((rowlit (W := w2) (z := 1) (l := [.int .i64 1]) a2 rfl (by unfold maxLen; omega)).below b3).sis (l := [1])
  have c0 := cell_of a3 0
  have c1 := cell_of a3 1
  have c2 := cell_of a3 2
  have c3 := cell_of a3 3
  simp at c0 c1 c2 c3
  refine ⟨⟨_, 2, rfl, Nat.le_refl _, by unfold maxLen; omega, fun i u hu => ?_⟩, (b1.trans (b2.mono b1.size)).trans (b3.mono (by omega))⟩
  match i, hu with
  | 0, hu =>
    have hu : ((1 : Int), ([0, 1] : List Int)) = u := by simpa [uEx] using hu
    subst hu
    exact ⟨_, _, rfl, heap_lt a3, c0, c1, s1⟩
  | 1, hu =>
    have hu : ((2 : Int), ([1] : List Int)) = u := by simpa [uEx] using hu
    subst hu
    exact ⟨_, _, rfl, heap_lt a3, c2, c3, s2⟩
  | k + 2, hu => simp [uEx] at hu
set_option maxRecDepth 100000 in
set_option maxHeartbeats 4000000 in
theorem awakeO_any (w : World) : Calls Try.prog 13 #[] w fun e w' => e = .returned (.bool true) ∧ Below w.heap.size w w' := by
  obtain ⟨hU, hB⟩ := uEx_at w
  have HU := Lib.hid hU
  have HB := Lib.hid hB
  have HW := Lib.hid (Waits_any hU (by decide) (by decide) (by unfold uEx InR64; decide) (by unfold uEx InR64; decide))
  rw [uE_waits] at HW
  have HC1 : Hid (∀ W : World, Calls Try.prog 15 #[.slice (some ⟨W.heap.size, 0, none⟩) 4 4] (W.alloc (.cells #[.int .i64 1, .int .i64 0, .int .i64 5, .int .i64 2, .int .i64 0, .int .i64 7, .int .i64 2, .int .i64 1, .int .i64 3, .int .i64 1, .int .i64 1, .int .i64 4] 59)) fun e w' => ∃ v', e = .returned (.tuple #[v', .bool false]) ∧ Below W.heap.size W w') := Lib.hid (fun W => (Certify_any (T := tE1) (rowlit (z := 3) (alloc_at W _) rfl (by unfold maxLen; decide)) (by decide) (by unfold tE1 InR64; decide)).mono (by
    rintro e w' ⟨v', o, b, rfl, hc, _, hb⟩
    rw [tE1_cert hc]
    exact ⟨v', rfl, (below_new _).trans (hb.mono (by rw [asz]; omega))⟩))
  have HC2 : Hid (∀ W : World, Calls Try.prog 15 #[.slice (some ⟨W.heap.size, 0, none⟩) 3 3] (W.alloc (.cells #[.int .i64 3, .int .i64 0, .int .i64 5, .int .i64 2, .int .i64 0, .int .i64 7, .int .i64 1, .int .i64 1, .int .i64 4] 59)) fun e w' => ∃ v', e = .returned (.tuple #[v', .bool true]) ∧ SIs w' v' [1, 3, 2] ∧ Below W.heap.size W w') := Lib.hid (fun W => (Certify_any (T := tE2) (rowlit (z := 3) (alloc_at W _) rfl (by unfold maxLen; decide)) (by decide) (by unfold tE2 InR64; decide)).mono (by
    rintro e w' ⟨v', o, b, rfl, hc, hs, hb⟩
    obtain ⟨rfl, rfl⟩ := tE2_cert hc
    exact ⟨v', rfl, hs, (below_new _).trans (hb.mono (by rw [asz]; omega))⟩))
  have HM : Hid (∀ (W : World) (g s : Int), UIs W (.slice (some ⟨w.heap.size + 1 + 1, 0, none⟩) 2 2) uEx → Calls Try.prog 7 #[.int .i64 g, .int .i64 s, .slice (some ⟨w.heap.size + 1 + 1, 0, none⟩) 2 2] W fun e w' => e = .returned (.bool (mayP g s uEx)) ∧ Below W.heap.size W w') := Lib.hid (fun W g s h => May_any h (by decide) (by decide))
  clear hU hB
  unfold wEx at HU HB HW
  go_enter Try.func13, Try.ntmps13
  go_wp2_with fail
  refine (HW.out).mono ?_
  rintro e w1 ⟨v1, rfl, hE, hb1⟩
  have HU1 := Lib.hid (HU.out.below hb1)
  have HE1 := Lib.hid hE
  have HB1 := Lib.hid (HB.out.trans (hb1.mono HB.out.size))
  clear hE hb1 HW HB HU
  go_wp2_with fail
  refine (HC1.out w1).mono ?_
  rintro e w2 ⟨v2, rfl, hb2⟩
  have HU2 := Lib.hid (HU1.out.below hb2)
  have HE2 := Lib.hid (HE1.out.below hb2)
  have HB2 := Lib.hid (HB1.out.trans (hb2.mono HB1.out.size))
  clear hb2 HU1 HE1 HB1
  go_wp2_with fail
  refine (HC2.out w2).mono ?_
  rintro e w3 ⟨v3, rfl, hs3, hb3⟩
  have HU3 := Lib.hid (HU2.out.below hb3)
  have HE3 := Lib.hid (HE2.out.below hb3)
  have HS3 := Lib.hid hs3
  have HB3 := Lib.hid (HB2.out.trans (hb3.mono HB2.out.size))
  clear hs3 hb3 HU2 HE2 HB2
  have m1 := HM.out w3 2 1 HU3.out
  rw [uE_m1] at m1
  have HM1 := Lib.hid m1
  clear m1
  go_wp2_with fail
  refine (HM1.out).mono ?_
  rintro e w4 ⟨rfl, hb4⟩
  have HU4 := Lib.hid (HU3.out.below hb4)
  have HE4 := Lib.hid (HE3.out.below hb4)
  have HS4 := Lib.hid (HS3.out.below hb4)
  have HB4 := Lib.hid (HB3.out.trans (hb4.mono HB3.out.size))
  clear hb4 HU3 HE3 HB3 HS3
  have m1 := HM.out w4 1 1 HU4.out
  rw [uE_m2] at m1
  have HM2 := Lib.hid m1
  clear m1
  go_wp2_with fail
  refine (HM2.out).mono ?_
  rintro e w5 ⟨rfl, hb5⟩
  have HU5 := Lib.hid (HU4.out.below hb5)
  have HE5 := Lib.hid (HE4.out.below hb5)
  have HS5 := Lib.hid (HS4.out.below hb5)
  have HB5 := Lib.hid (HB4.out.trans (hb5.mono HB4.out.size))
  clear hb5 HU4 HE4 HB4 HS4
  have m1 := HM.out w5 2 2 HU5.out
  rw [uE_m3] at m1
  have HM3 := Lib.hid m1
  clear m1
  go_wp2_with fail
  refine (HM3.out).mono ?_
  rintro e w6 ⟨rfl, hb6⟩
  have hE6 := HE5.out.below hb6
  have hS6 := HS5.out.below hb6
  have HB6 := Lib.hid (HB5.out.trans (hb6.mono HB5.out.size))
  clear hb6 HU5 HE5 HB5 HS5
  obtain ⟨A, cap, rfl, _, _, k1⟩ := hE6
  obtain ⟨a, rfl, _, k2, k3⟩ := k1 0 (2, 1) rfl
  obtain ⟨A3, cap3, rfl, _, _, j1⟩ := hS6
  obtain ⟨a3, rfl, _, j2⟩ := j1 0 1 rfl
  obtain ⟨_, e', _, j3⟩ := j1 1 3 rfl
  injection e' with e'
  subst e'
  clear j1 k1
  have k2' : w6.cell? a = some (.int .i64 2) := k2
  have j2' : w6.cell? a3 = some (.int .i64 1) := j2
  clear k2 j2
  obtain ⟨ab, ao, ap⟩ := a
  obtain ⟨bb, bo, bp⟩ := a3
  simp [Addr.add] at j3 k3
  go_wp2
  go_ret
  exact ⟨by simp, HB6.out⟩
end Go.Proofs.Ytlbhpeeggbfcpaa
