/- Latest of a chain that is not there; awake. -/
import Derived.Test.YtmaokoekbjjgfaaDoorZChaP
import Derived.OwnWalkIn
import Derived.TacticsInMore
import Derived.LoopNIn
import Derived.LoopIn
import Derived.RangeFuncNested
import Derived.RangeFuncBound
import Derived.RangeFuncCalls
import Derived.RangeFuncLeaves
import Derived.Shelf.Abstract
import Derived.Shelf.RegionOpen
set_option linter.unusedSimpArgs false
set_option linter.unusedVariables false
set_option linter.unnecessarySimpa false
namespace Go.Proofs.YtmaokoekbjjgfaaDoor
open Go.RowKit Go.Shelf
attribute [local go_sem] Oper.semAt_some

abbrev Rnd0 := { j : Nat // j < 0 }
def rnd0E (x : Rnd0) : Array Value := #[.int .i64 0, zeroV]
def Kp0 (Bs : Nat) (A B : World) : Prop := B.heap[Bs]? = A.heap[Bs]?
theorem Kp0.trans {Bs : Nat} {A B C : World} (h : Kp0 Bs A B) (k : Kp0 Bs B C) : Kp0 Bs A C := Eq.trans k h
set_option maxRecDepth 100000 in
set_option maxHeartbeats 1000000 in
theorem back0_in (n : Nat) (hn : 1 ≤ n) (l Bs : Nat) (J Jx : List Rnd0 → World → Prop)
    (hY : ∀ pre x W, J pre W → pre.length < 0 → YieldAt Fence.wide (n - 1) Tryd.prog l (rnd0E x) W fun e W' =>
      (e = .returned (.bool true) ∧ J (pre ++ [x]) W' ∧ Kp0 Bs W W') ∨ (e = .returned (.bool false) ∧ Jx (pre ++ [x]) W'))
    (W : World) (hBs : W.cell? ⟨Bs, 0, none⟩ = some (.slice none 0 0)) (h0 : J [] W) :
    CallsIn Fence.wide n Tryd.prog 47 #[.func (.yield l) #[] #[], .pointer (some ⟨Bs, 0, none⟩)] W fun e W' => (∃ v, e = .returned v) ∧
      ((∃ ys, ys.map (·.1) = List.range 0 ∧ J ys W') ∨ (∃ pre, (∃ k, k ≤ 0 ∧ pre.map (·.1) = List.range k) ∧ Jx pre W')) := by
  refine callsIn_of_wp Tryd.func47 rfl trivial ?_ rfl
  simp only [Tryd.ntmps47, List.size_toArray, List.length_cons, List.length_nil, Nat.reduceAdd, Nat.reduceSub, Array.replicate_succ, Array.replicate_zero, List.push_toArray, List.append_toArray, List.nil_append, List.cons_append]
  gi_wp2
  gi_loopw [3] (fun i wr => i = .int .i64 (-1) ∧ J [] wr) (fun i _ => (intOf i + 1).toNat)
  case atStart => exact ⟨rfl, h0⟩
  case round =>
    obtain ⟨rfl, hJ⟩ := hrel
    gi_wp2
    go_end0
    exact ⟨⟨_, rfl⟩, .inl ⟨[], rfl, hJ⟩⟩
set_option maxRecDepth 100000 in
set_option maxHeartbeats 1000000 in
theorem back_any (w : World) (A : Option Addr) (n cap : Nat) : Calls Tryd.prog 36 #[.slice A n cap] w fun e w' => e = .returned (.func (.func 47) #[] #[.pointer (some ⟨w.heap.size, 0, none⟩)]) ∧ w' = w.alloc (.cells #[.slice A n cap] 48) := by
  go_enter Tryd.func36, Tryd.ntmps36
  go_wp2_with fail
  go_ret
  first | trivial | exact ⟨rfl, rfl⟩
theorem back0_stops (n : Nat) (hn : 1 ≤ n) (Bs : Nat) (w : World) (hBs : Bs < w.heap.size) (hc : w.cell? ⟨Bs, 0, none⟩ = some (.slice none 0 0)) :
    SeqStopsK Fence.wide n Tryd.prog 47 #[.pointer (some ⟨Bs, 0, none⟩)] rnd0E (Kp0 Bs) (fun ys => ys.map (·.1) = List.range 0) (fun pre => ∃ k, k ≤ 0 ∧ pre.map (·.1) = List.range k) 0 w := fun l J Jx W hW _ _ hY h0 =>
  back0_in n hn l Bs J Jx hY W ((hW.cell (p := ⟨Bs, 0, none⟩) hBs).trans hc) h0
set_option maxRecDepth 100000 in
set_option maxHeartbeats 1000000 in
theorem Latest_nil (w : World) : Calls Tryd.prog 22 #[.pointer none] w fun e w' => e = .returned (.tuple #[.int .i64 0, .bool false]) ∧ Below w.heap.size w w' := by
  have HV := Lib.hid (fun W => Versions_nil W)
  have HBK := Lib.hid (fun W => back_any W none 0 0)
  refine (callsIn_wide (n := 9)).1 ?_
  refine callsIn_of_wp_marks Tryd.func22 rfl trivial ?_ rfl
  simp only [Tryd.ntmps22, List.size_toArray, List.length_cons, List.length_nil, Nat.reduceAdd, Nat.reduceSub, Array.replicate_succ, Array.replicate_zero, List.push_toArray, List.append_toArray, List.nil_append, List.cons_append]
  refine wpIn_wide.2 ?_
  go_wp2_with fail
  refine (HV.out _).mono ?_
  rintro e w1 ⟨rfl, rfl⟩
  go_wp2_with fail
  refine (HBK.out _).mono ?_
  rintro e w2 ⟨rfl, rfl⟩
  go_wp2_with fail
  have HB0 : Hid (Below w.heap.size w (((w.alloc (.cells #[.int .i64 0] 2)).alloc (.cells #[.bool false] 4)).alloc (.cells #[.slice none 0 0] 48))) := Lib.hid (((below_new _).trans ((below_new _).mono (by rw [asz]; omega))).trans ((below_new _).mono (by rw [asz, asz]; omega)))
  have hbx := alloc_at ((w.alloc (.cells #[.int .i64 0] 2)).alloc (.cells #[.bool false] 4)) (.cells #[.slice none 0 0] 48)
  rw [asz, asz] at hbx
  have HS0 : Hid ((((w.alloc (.cells #[.int .i64 0] 2)).alloc (.cells #[.bool false] 4)).alloc (.cells #[.slice none 0 0] 48)).heap.size = w.heap.size + 3) := Lib.hid (by rw [asz, asz, asz])
  have h0 : (((w.alloc (.cells #[.int .i64 0] 2)).alloc (.cells #[.bool false] 4)).alloc (.cells #[.slice none 0 0] 48)).heap[w.heap.size]? = some (.cells #[.int .i64 0] 2 (0, 0)) := (Below.heap_alloc _ _ _ (by rw [asz, asz]; omega)).trans ((Below.heap_alloc _ _ _ (by rw [asz]; omega)).trans (alloc_at w _))
  have h1 : (((w.alloc (.cells #[.int .i64 0] 2)).alloc (.cells #[.bool false] 4)).alloc (.cells #[.slice none 0 0] 48)).heap[w.heap.size + 1]? = some (.cells #[.bool false] 4 (0, 0)) := by
    have := alloc_at (w.alloc (.cells #[.int .i64 0] 2)) (.cells #[.bool false] 4)
    rw [asz] at this
    exact (Below.heap_alloc _ _ _ (by rw [asz, asz]; omega)).trans this
  have H0 := Lib.hid h0
  have H1 := Lib.hid h1
  have HBX := Lib.hid hbx
  clear h0 h1 hbx HV HBK
  generalize ((w.alloc (.cells #[.int .i64 0] 2)).alloc (.cells #[.bool false] 4)).alloc (.cells #[.slice none 0 0] 48) = W0 at *
  refine (wpIn_wide (n := 8)).1 ?_
  refine wpIn_rangeFunc_ownG (n := 8) rfl (by omega) (gf := 47) (lb := #[.pointer (some ⟨w.heap.size + 1 + 1, 0, none⟩)]) rfl trivial (enters_of Tryd.func47 (by kernel_rfl) rfl)
    (back0_stops 7 (by omega) (w.heap.size + 1 + 1) W0 (by have := HS0.out; omega) (cell_of HBX.out 0)) Kp0.trans ?hKb (Below.refl _ _) (fun _ => rfl)
    (fun pre W => Below w.heap.size w W ∧ W.heap[w.heap.size]? = some (.cells #[.int .i64 0] 2 (0, 0)) ∧ W.heap[w.heap.size + 1]? = some (.cells #[.bool false] 4 (0, 0)))
    (fun _ _ _ => False)
    ?grow
    (fun _ _ _ _ _ hs _ _ => hs)
    ⟨HB0.out, H0.out, H1.out⟩
    (fun x => { tmps := #[.pointer none, undef, .pointer (some ⟨w.heap.size, 0, none⟩), .pointer (some ⟨w.heap.size + 1, 0, none⟩), undef, undef, .pointer none, .slice none 0 0, .func (.func 47) #[] #[.pointer (some ⟨w.heap.size + 1 + 1, 0, none⟩)], .int .i64 0, zeroV, undef, undef, undef, undef, undef, undef, undef], defers := [] }) ?assign ?body ?done ?stop
  case hKb =>
    intro W l' o o' hl' _ _ _
    have h1 := HS0.out
    exact World.putObj_heap_other (fun e => by omega)
  case grow =>
    intro s W W' row hs hg hr
    have h3 := HS0.out
    have h4 := heap_lt hs.2.2
    refine ⟨hs.1.grown hg hs.1.size (fun k e => by have := hr k e; omega), (hg.block _ (by omega) (fun e => by have := hr _ e.symm; omega)).trans hs.2.1, (hg.block _ h4 (fun e => by have := hr _ e.symm; omega)).trans hs.2.2⟩
  case assign =>
    intro l' x W K hK
    exact absurd x.2 (Nat.not_lt_zero _)
  case body =>
    rintro l' pre x W _ hlt
    exact absurd x.2 (Nat.not_lt_zero _)
  case done =>
    rintro D ys W hD hys ⟨hb, h0, h1⟩ hK
    have c0 := cell_of h0 0
    have c1 := cell_of h1 0
    have f0 := free0 h0 0
    have f1 := free0 h1 0
    have hn1 : D ≠ w.heap.size := by have := HS0.out; omega
    have hn2 : D ≠ w.heap.size + 1 := by have := HS0.out; omega
    have HK := Lib.hid hK
    have HB := Lib.hid hb
    have HH0 := Lib.hid h0
    have HH1 := Lib.hid h1
    clear hys hK hb h0 h1
    go_wp2_with fail
    refine ⟨by simp, .inl ⟨_, _, rfl, run_takeDeferred ?_, ?_⟩⟩
    · rw [Below.heap_setCell _ _ _ _ hn2, Below.heap_setCell _ _ _ _ hn1]
      exact HK.out
    · have g0 : ((W.setCell ⟨w.heap.size, 0, none⟩ (.int .i64 0)).setCell ⟨w.heap.size + 1, 0, none⟩ (.bool false)).heap[w.heap.size]? = some (.cells (#[Value.int .i64 0].setIfInBounds 0 (.int .i64 0)) 2 (0, 0)) := (Below.heap_setCell _ _ _ _ (show w.heap.size ≠ w.heap.size + 1 by omega)).trans (set_at HH0.out 0 _)
      have g1 : ((W.setCell ⟨w.heap.size, 0, none⟩ (.int .i64 0)).setCell ⟨w.heap.size + 1, 0, none⟩ (.bool false)).heap[w.heap.size + 1]? = some (.cells (#[Value.bool false].setIfInBounds 0 (.bool false)) 4 (0, 0)) := set_at ((Below.heap_setCell _ _ _ _ (show w.heap.size + 1 ≠ w.heap.size by omega)).trans HH1.out) 0 _
      have hbf : Below w.heap.size w ((W.setCell ⟨w.heap.size, 0, none⟩ (.int .i64 0)).setCell ⟨w.heap.size + 1, 0, none⟩ (.bool false)) := (HB.out.setCell (p := ⟨w.heap.size, 0, none⟩) (Nat.le_refl _) _).setCell (p := ⟨w.heap.size + 1, 0, none⟩) (Nat.le_succ _) _
      generalize (W.setCell ⟨w.heap.size, 0, none⟩ (.int .i64 0)).setCell ⟨w.heap.size + 1, 0, none⟩ (.bool false) = W5 at g0 g1 hbf ⊢
      have e0 : (W5.putObj D (.deferred none)).cell? ⟨w.heap.size, 0, none⟩ = some (.int .i64 0) := (World.cell?_of_block (a := ⟨w.heap.size, 0, none⟩) (World.putObj_heap_other (fun e => hn1 (by first | exact e | exact e.symm)))).trans (cell_of g0 0)
      have e1 : (W5.putObj D (.deferred none)).cell? ⟨w.heap.size + 1, 0, none⟩ = some (.bool false) := (World.cell?_of_block (a := ⟨w.heap.size + 1, 0, none⟩) (World.putObj_heap_other (fun e => hn2 (by first | exact e | exact e.symm)))).trans (cell_of g1 0)
      refine ⟨.tuple #[.int .i64 0, .bool false], by simp [results, Tryd.results22, go_sem, e0, e1], ?_⟩
      refine ⟨rfl, ?_⟩
      refine hbf.grown (grownBy_putObj' _ D _) hbf.size (fun k e => ?_)
      cases e
      have := HS0.out
      omega
  case stop =>
    rintro D c pre W _ _ h _
    exact h.elim
end Go.Proofs.YtmaokoekbjjgfaaDoor
