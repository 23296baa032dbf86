/- The box: a message with lists of its own; what may be asked. What may be asked of a box; a box that is made. The box: Open. -/
import Derived.Test.YtfddlhcdlgdofaaGreatDoorZPosA
import Derived.Test.YtfddlhcdlgdofaaGreatDoorZShk
set_option linter.unusedSimpArgs false
set_option linter.unusedVariables false
set_option linter.unnecessarySimpa false
namespace Go.Proofs.YtfddlhcdlgdofaaGreatDoor
open Go.RowKit Go.Shelf

/-- A message with lists of its own, in blocks from B on. -/
def MsgOwn (w : World) (B : Nat) (v : Value) (m : MsgV) : Prop := ∃ tA tc oA oc, v = .agg (cellM m tA tc oA oc) ∧ NumsAt w (.slice tA m.tl.length tc) m.tl ∧ OpsAt w (.slice oA m.os.length oc) m.os ∧ (∀ a, tA = some a → B ≤ a.block ∧ a.block < w.heap.size) ∧ ∀ a, oA = some a → B ≤ a.block ∧ a.block < w.heap.size
theorem MsgOwn.is {w : World} {B : Nat} {v : Value} {m : MsgV} (h : MsgOwn w B v m) (hk : KeysIn m.os) : MsgIs w v m := by
  obtain ⟨tA, tc, oA, oc, e, h1, h2, _⟩ := h
  exact ⟨tA, tc, oA, oc, e, h1, h2, hk⟩
theorem MsgOwn.below {w w' : World} {B : Nat} {v : Value} {m : MsgV} (h : MsgOwn w B v m) (hb : Below w.heap.size w w') : MsgOwn w' B v m := by
  obtain ⟨tA, tc, oA, oc, e, h1, h2, h3, h4⟩ := h
  exact ⟨tA, tc, oA, oc, e, h1.below hb, h2.below hb, fun a ha => ⟨(h3 a ha).1, Nat.lt_of_lt_of_le (h3 a ha).2 hb.size⟩, fun a ha => ⟨(h4 a ha).1, Nat.lt_of_lt_of_le (h4 a ha).2 hb.size⟩⟩
theorem row_own_addr {w : World} {z n B : Nat} {A : Option Addr} {c : Nat} {l : List Value} (h : RowIs w z (.slice A n c) n l) (hB : ∀ b, (Value.slice A n c).ownBlock = some b → B ≤ b) : ∀ a, A = some a → B ≤ a.block ∧ a.block < w.heap.size := by
  rintro a rfl
  exact ⟨hB a.block rfl, h.lt a.block rfl⟩
abbrev zeroC : Array Value := #[.int .i64 0, .int .i64 0, .int .i64 0, .int .i64 0, .int .i64 0, .int .i64 0, .int .i64 0, .int .i64 0, .int .i64 0, .slice none 0 0, .slice none 0 0]
theorem fin_clone {w WI w3 : World} {m : MsgV} {tA oA A1 A2 : Option Addr} {tc oc c1 c2 B1 B2 : Nat} {T T' : TypeId} (hB : Below w.heap.size w WI) (hY : Below WI.heap.size WI w3)
    (hat : ∀ W, Below WI.heap.size WI W → W.heap[w.heap.size]? = some (.cells (cellM m tA tc oA oc) T (0, 0))) (hrs : ∀ W, Below WI.heap.size WI W → W.heap[w.heap.size + 1]? = some (.cells zeroC T' (0, 0)))
    (h1 : RowIs w3 1 (.slice A1 m.tl.length c1) m.tl.length (intC m.tl)) (o1 : ∀ b, (Value.slice A1 m.tl.length c1).ownBlock = some b → B1 ≤ b) (hb1 : WI.heap.size ≤ B1)
    (h2 : RowIs w3 4 (.slice A2 m.os.length c2) m.os.length (opC m.os)) (o2 : ∀ b, (Value.slice A2 m.os.length c2).ownBlock = some b → B2 ≤ b) (hb2 : WI.heap.size ≤ B2) (hs : w.heap.size + 2 = WI.heap.size) :
    ∃ W4, W4 = (w3.setCell ⟨w.heap.size, 9, none⟩ (.slice A1 m.tl.length c1)).setCell ⟨w.heap.size, 10, none⟩ (.slice A2 m.os.length c2) ∧ W4.heap[w.heap.size]? = some (.cells (cellM m A1 c1 A2 c2) T (0, 0)) ∧ W4.heap[w.heap.size + 1]? = some (.cells zeroC T' (0, 0)) ∧ (∀ i, W4.frozen? ⟨w.heap.size + 1, i, none⟩ = false) ∧
      NumsAt W4 (.slice A1 m.tl.length c1) m.tl ∧ OpsAt W4 (.slice A2 m.os.length c2) m.os ∧ (∀ a, A1 = some a → w.heap.size + 2 ≤ a.block ∧ a.block < W4.heap.size) ∧ (∀ a, A2 = some a → w.heap.size + 2 ≤ a.block ∧ a.block < W4.heap.size) ∧ Below w.heap.size w W4 := by
  have ht : Touch (fun k => k = w.heap.size) w3 ((w3.setCell ⟨w.heap.size, 9, none⟩ (.slice A1 m.tl.length c1)).setCell ⟨w.heap.size, 10, none⟩ (.slice A2 m.os.length c2)) := ((Touch.refl (fun k => k = w.heap.size) w3).setCell ⟨w.heap.size, 9, none⟩ (fun _ => rfl) _).setCell ⟨w.heap.size, 10, none⟩ (fun _ => rfl) _
  have hz : (((w3.setCell ⟨w.heap.size, 9, none⟩ (.slice A1 m.tl.length c1)).setCell ⟨w.heap.size, 10, none⟩ (.slice A2 m.os.length c2))).heap.size = w3.heap.size := by simp [World.setCell]
  have e1 := row_own_addr h1 o1
  have e2 := row_own_addr h2 o2
  refine ⟨_, rfl, ?_, ?_, ?_, ?_, ?_, ?_, ?_, ?_⟩
  · exact set_at (set_at (hat _ hY) 9 _) 10 _
  · exact (ht.block _ (heap_lt (hrs _ hY)) (by omega)).trans (hrs _ hY)
  · intro i
    exact free0 ((ht.block _ (heap_lt (hrs _ hY)) (by omega)).trans (hrs _ hY)) i
  · exact (h1.nums rfl).touch ht (fun _ a e => by have := (e1 a e).1; omega)
  · exact (h2.ops rfl).touch ht (fun _ a e => by have := (e2 a e).1; omega)
  · intro a e; have := e1 a e; rw [hz]; omega
  · intro a e; have := e2 a e; rw [hz]; omega
  · exact (hB.trans (hY.mono hB.size)).trans (ht.below (fun i e => by rw [e]; exact Nat.le_refl _) (Nat.le_trans hB.size hY.size))
theorem fin_ret {w W4 W5 : World} {m : MsgV} {A1 A2 : Option Addr} {c1 c2 : Nat} (h1 : NumsAt W4 (.slice A1 m.tl.length c1) m.tl) (h2 : OpsAt W4 (.slice A2 m.os.length c2) m.os) (e1 : ∀ a, A1 = some a → w.heap.size + 2 ≤ a.block ∧ a.block < W4.heap.size) (e2 : ∀ a, A2 = some a → w.heap.size + 2 ≤ a.block ∧ a.block < W4.heap.size)
    (hb : Below w.heap.size w W4) (ht : Touch (fun k => k = w.heap.size + 1) W4 W5) : ∃ v', Ending.returned (.agg (cellM m A1 c1 A2 c2)) = Ending.returned v' ∧ MsgOwn W5 w.heap.size v' m ∧ Below w.heap.size w W5 :=
  ⟨_, rfl, ⟨A1, c1, A2, c2, rfl, h1.touch ht (fun _ a e => by have := e1 a e; omega), h2.touch ht (fun _ a e => by have := e2 a e; omega), fun a e => ⟨by have := e1 a e; omega, Nat.lt_of_lt_of_le (e1 a e).2 ht.size⟩, fun a e => ⟨by have := e2 a e; omega, Nat.lt_of_lt_of_le (e2 a e).2 ht.size⟩⟩, hb.trans (ht.below (fun i e => by omega) hb.size)⟩
set_option maxRecDepth 100000 in
set_option maxHeartbeats 4000000 in
theorem pclone_any {w : World} {v : Value} {m : MsgV} (h : MsgIs w v m) (h1 : m.tl.length ≤ 1000000) (h2 : m.os.length ≤ 1000000) :
    Calls Tryz.prog 91 #[v] w fun e w' => ∃ v', e = .returned v' ∧ MsgOwn w' w.heap.size v' m ∧ Below w.heap.size w w' := by
  obtain ⟨tA, tc, oA, oc, rfl, ht, ho, hk⟩ := h
  obtain ⟨kd, fr, tt, g, nd, tr, lw, co, ti, tl, os⟩ := m
  simp only at ht ho hk h1 h2 ⊢
  obtain ⟨WI, hWI⟩ : ∃ W, W = (w.alloc (.cells #[.int .i64 kd, .int .i64 fr, .int .i64 tt, .int .i64 g, .int .i64 nd, .int .i64 tr, .int .i64 lw, .int .i64 co, .int .i64 ti, .slice tA tl.length tc, .slice oA os.length oc] 50)).alloc (.cells zeroC 50) := ⟨_, rfl⟩
  have hs : w.heap.size + 2 = WI.heap.size := by rw [hWI, asz, asz]
  have hB : Below w.heap.size w WI := by rw [hWI]; exact (below_new _).trans ((below_new _).mono (by rw [asz]; exact Nat.le_succ _))
  have hat0 : WI.heap[w.heap.size]? = some (.cells (cellM ⟨kd, fr, tt, g, nd, tr, lw, co, ti, tl, os⟩ tA tc oA oc) 50 (0, 0)) := by rw [hWI]; exact ((below_new _).block _ (by rw [asz]; exact Nat.lt_succ_self _)).trans (alloc_at w _)
  have hrs0 : WI.heap[w.heap.size + 1]? = some (.cells zeroC 50 (0, 0)) := by
    rw [hWI]
    have := alloc_at (w.alloc (.cells #[.int .i64 kd, .int .i64 fr, .int .i64 tt, .int .i64 g, .int .i64 nd, .int .i64 tr, .int .i64 lw, .int .i64 co, .int .i64 ti, .slice tA tl.length tc, .slice oA os.length oc] 50)) (.cells zeroC 50)
    rwa [asz] at this
  have HAT : Hid (∀ W, Below WI.heap.size WI W → W.heap[w.heap.size]? = some (.cells (cellM ⟨kd, fr, tt, g, nd, tr, lw, co, ti, tl, os⟩ tA tc oA oc) 50 (0, 0))) := Lib.hid (fun W hW => (hW.block _ (by omega)).trans hat0)
  have HRS : Hid (∀ W, Below WI.heap.size WI W → W.heap[w.heap.size + 1]? = some (.cells zeroC 50 (0, 0))) := Lib.hid (fun W hW => (hW.block _ (by omega)).trans hrs0)
  have HK9 : Hid (∀ W, Below WI.heap.size WI W → W.cell? ⟨w.heap.size, 9, none⟩ = some (.slice tA tl.length tc)) := Lib.hid (fun W hW => cell_of (HAT.out W hW) 9)
  have HK10 : Hid (∀ W, Below WI.heap.size WI W → W.cell? ⟨w.heap.size, 10, none⟩ = some (.slice oA os.length oc)) := Lib.hid (fun W hW => cell_of (HAT.out W hW) 10)
  have HC1 : Hid (∀ W, Below WI.heap.size WI W → _) := Lib.hid (fun W hW => clone_nums ((ht.below hB).below hW) h1)
  have HC2 : Hid (∀ W, Below WI.heap.size WI W → _) := Lib.hid (fun W hW => clone_ops ((ho.below hB).below hW) h2)
  have HWI := Lib.hid hWI
  have HSZ := Lib.hid hs
  have HB := Lib.hid hB
  clear hs hB hat0 hrs0 ht ho hk h1 h2 hWI
  go_enter Tryz.func91, Tryz.ntmps91
  go_wp2_with fail
  rw [← HWI.out]
  refine wp_only ?_
  refine wp_region_held_drew (S := fun _ => True) (by kernel_rfl) trivial (fun hHeld => ?_)
  refine wpAnyH_take (i := 0) (oi := { dst := some 3, op := Op.fieldAddr 50 (Operand.tmp 1) 7, type := 0, pos := "request.go:72", after := #[], guard := none }) (v := ?vv1) rfl (by kernel_rfl) (by kernel_rfl) (by kernel_rfl) (fun _ _ _ h => h) ?hy1 (by assumption) ?rest1
  case hy1 => (refine Or.inl ⟨by rfl, ?_⟩; intro W hSw; (try dsimp only at hSw); go_simp; (try with_reducible rfl))
  try simp only [Act.put, List.setIfInBounds_toArray, List.set_cons_zero, List.set_cons_succ]
  refine wpAnyH_take (i := 3) (oi := { dst := some 6, op := Op.fieldAddr 50 (Operand.tmp 1) 8, type := 0, pos := "request.go:72", after := #[], guard := none }) (v := ?vv2) rfl (by kernel_rfl) (by kernel_rfl) (by kernel_rfl) (fun _ _ _ h => h) ?hy2 (by assumption) ?rest2
  case hy2 => (refine Or.inl ⟨by rfl, ?_⟩; intro W hSw; (try dsimp only at hSw); go_simp; (try with_reducible rfl))
  try simp only [Act.put, List.setIfInBounds_toArray, List.set_cons_zero, List.set_cons_succ]
  have k9 := HK9.out WI (Below.refl _ _)
  have k10 := HK10.out WI (Below.refl _ _)
  refine wpAnyH_ready (rs := [1, 4]) (by kernel_rfl) (by simp) ?_
  refine AllReadyH.cons (o := { dst := some 4, op := Op.load 34 (Operand.tmp 3), type := 34, pos := "request.go:72", after := #[{ on := 0, ground := Ground.data }], guard := none }) rfl (fun K hK => ?step3) ?more3
  ((go_simp; go_wp2_with fail))
  refine hK.out _ _ ?hS3 (fun hHeld => ?rr3)
  case hS3 => (trivial)
  clear hK K
  try simp only [Act.put, List.setIfInBounds_toArray, List.set_cons_zero, List.set_cons_succ]
  · refine wpAnyH_ready (rs := [2, 4]) (by kernel_rfl) (by simp) ?_
    refine AllReadyH.cons (o := { dst := some 5, op := Op.call { callee := Callee.value (Operand.func 125), args := #[Operand.tmp 4], argTypes := #[34] }, type := 34, pos := "request.go:72", after := #[{ on := 1, ground := Ground.data }], guard := none }) rfl (fun K hK => ?step4) ?more4
    ((go_simp; go_at_call 125; refine (HC1.out _ (below_drew (Below.refl WI.heap.size WI))).mono ?_; rintro e w2 ⟨v1, rfl, hr1, ho1, hb1⟩; obtain ⟨A1, c1, rfl, _⟩ := id hr1.form; go_wp2_with fail))
    refine hK.out _ _ ?hS4 (fun hHeld => ?rr4)
    case hS4 => (trivial)
    clear hK K
    try simp only [Act.put, List.setIfInBounds_toArray, List.set_cons_zero, List.set_cons_succ]
    · have HX := Lib.hid ((below_drew (Below.refl WI.heap.size WI)).trans (hb1.mono (below_drew (Below.refl WI.heap.size WI)).size))
      have HR1 := Lib.hid (And.intro hr1 ho1)
      have k9 := HK9.out _ HX.out
      have k10 := HK10.out _ HX.out
      clear hr1 ho1 hb1
      refine wpAnyH_ready (rs := [4]) (by kernel_rfl) (by simp) ?_
      refine AllReadyH.cons (o := { dst := some 7, op := Op.load 35 (Operand.tmp 6), type := 35, pos := "request.go:72", after := #[{ on := 3, ground := Ground.data }], guard := none }) rfl (fun K hK => ?step5) ?more5
      case more5 => exact AllReadyH.nil
      ((go_simp; go_wp2_with fail))
      refine hK.out _ _ ?hS5 (fun hHeld => ?rr5)
      case hS5 => (trivial)
      clear hK K
      try simp only [Act.put, List.setIfInBounds_toArray, List.set_cons_zero, List.set_cons_succ]
      refine wpAnyH_take (i := 6) (oi := { dst := some 9, op := Op.fieldAddr 50 (Operand.tmp 1) 7, type := 0, pos := "request.go:72", after := #[{ on := 0, ground := Ground.phase }, { on := 1, ground := Ground.phase }, { on := 2, ground := Ground.phase }, { on := 3, ground := Ground.phase }, { on := 4, ground := Ground.phase }, { on := 5, ground := Ground.textOnly Departure.lateStoresUnsure }], guard := none }) (v := ?vv6) rfl (by kernel_rfl) (by kernel_rfl) (by kernel_rfl) (fun _ _ _ h => h) ?hy6 (by assumption) ?rest6
      case hy6 => (refine Or.inl ⟨by rfl, ?_⟩; intro W hSw; (try dsimp only at hSw); go_simp; (try with_reducible rfl))
      try simp only [Act.put, List.setIfInBounds_toArray, List.set_cons_zero, List.set_cons_succ]
      refine wpAnyH_ready (rs := [5]) (by kernel_rfl) (by simp) ?_
      refine AllReadyH.cons (o := { dst := some 8, op := Op.call { callee := Callee.value (Operand.func 126), args := #[Operand.tmp 7], argTypes := #[35] }, type := 35, pos := "request.go:72", after := #[{ on := 4, ground := Ground.data }, { on := 2, ground := Ground.chain }], guard := none }) rfl (fun K hK => ?step7) ?more7
      case more7 => exact AllReadyH.nil
      ((go_simp; go_at_call 126; refine (HC2.out _ HX.out).mono ?_; rintro e w3 ⟨v2, rfl, hr2, ho2, hb2⟩; obtain ⟨A2, c2, rfl, _⟩ := id hr2.form; go_wp2_with fail))
      refine hK.out _ _ ?hS7 (fun hHeld => ?rr7)
      case hS7 => (trivial)
      clear hK K
      try simp only [Act.put, List.setIfInBounds_toArray, List.set_cons_zero, List.set_cons_succ]
      have HY := Lib.hid (HX.out.trans (hb2.mono HX.out.size))
      have HR1b := Lib.hid (HR1.out.1.below hb2)
      have HR2 := Lib.hid (And.intro hr2 ho2)
      have hA3 := HAT.out _ HY.out
      have f9 := free0 hA3 9
      have f10 := free0 hA3 10
      have k9' := cell_of hA3 9
      have k10' := cell_of hA3 10
      clear k9 k10 hr2 ho2 hb2
      simp at k9' k10'
      obtain ⟨W4, hW4, hfin⟩ := fin_clone HB.out HY.out HAT.out HRS.out HR1b.out HR1.out.2 (by simp) HR2.out.1 HR2.out.2 HX.out.size HSZ.out
      have HFIN := Lib.hid hfin
      clear hfin
      have HW4 := Lib.hid hW4
      clear hW4 hA3
      refine wpAnyH_ready (rs := [7]) (by kernel_rfl) (by simp) ?_
      refine AllReadyH.cons (o := { dst := none, op := Op.store 34 (Operand.tmp 9) (Operand.tmp 5), type := 0, pos := "request.go:72", after := #[{ on := 6, ground := Ground.data }, { on := 2, ground := Ground.data }, { on := 5, ground := Ground.chain }, { on := 0, ground := Ground.phase }, { on := 1, ground := Ground.phase }, { on := 2, ground := Ground.phase }, { on := 3, ground := Ground.phase }, { on := 4, ground := Ground.phase }, { on := 5, ground := Ground.textOnly Departure.lateStoresUnsure }], guard := none }) rfl (fun K hK => ?step8) ?more8
      case more8 => exact AllReadyH.nil
      ((go_simp; go_wp2_with fail))
      refine hK.out _ _ ?hS8 (fun hHeld => ?rr8)
      case hS8 => (trivial)
      clear hK K
      try simp only [Act.put, List.setIfInBounds_toArray, List.set_cons_zero, List.set_cons_succ]
      refine wpAnyH_take (i := 8) (oi := { dst := some 10, op := Op.fieldAddr 50 (Operand.tmp 1) 8, type := 0, pos := "request.go:72", after := #[{ on := 0, ground := Ground.phase }, { on := 1, ground := Ground.phase }, { on := 2, ground := Ground.phase }, { on := 3, ground := Ground.phase }, { on := 4, ground := Ground.phase }, { on := 5, ground := Ground.phase }, { on := 6, ground := Ground.phase }, { on := 7, ground := Ground.phase }], guard := none }) (v := ?vv9) rfl (by kernel_rfl) (by kernel_rfl) (by kernel_rfl) (fun _ _ _ h => h) ?hy9 (by assumption) ?rest9
      case hy9 => (refine Or.inl ⟨by rfl, ?_⟩; intro W hSw; (try dsimp only at hSw); go_simp; (try with_reducible rfl))
      try simp only [Act.put, List.setIfInBounds_toArray, List.set_cons_zero, List.set_cons_succ]
      refine wpAnyH_ready (rs := [9]) (by kernel_rfl) (by simp) ?_
      refine AllReadyH.cons (o := { dst := none, op := Op.store 35 (Operand.tmp 10) (Operand.tmp 8), type := 0, pos := "request.go:72", after := #[{ on := 8, ground := Ground.data }, { on := 5, ground := Ground.data }, { on := 7, ground := Ground.chain }, { on := 0, ground := Ground.phase }, { on := 1, ground := Ground.phase }, { on := 2, ground := Ground.phase }, { on := 3, ground := Ground.phase }, { on := 4, ground := Ground.phase }, { on := 5, ground := Ground.phase }, { on := 6, ground := Ground.phase }, { on := 7, ground := Ground.phase }], guard := none }) rfl (fun K hK => ?step10) ?more10
      case more10 => exact AllReadyH.nil
      ((go_simp; go_wp2_with fail))
      refine hK.out _ _ ?hS10 (fun hHeld => ?rr10)
      case hS10 => (trivial)
      clear hK K
      try simp only [Act.put, List.setIfInBounds_toArray, List.set_cons_zero, List.set_cons_succ]
      rw [← HW4.out]
      refine wpAnyH_done (by kernel_rfl) ?_ _
      dsimp only [onlyN]
      obtain ⟨hat4, hrs4, hfr4, hnu4, hop4, hoa4, hob4, hbe4⟩ := HFIN.out
      have m0 := cell_of hat4 0
      have m1 := cell_of hat4 1
      have m2 := cell_of hat4 2
      have m3 := cell_of hat4 3
      have m4 := cell_of hat4 4
      have m5 := cell_of hat4 5
      have m6 := cell_of hat4 6
      have m7 := cell_of hat4 7
      have m8 := cell_of hat4 8
      have m9 := cell_of hat4 9
      have m10 := cell_of hat4 10
      simp at m0 m1 m2 m3 m4 m5 m6 m7 m8 m9 m10
      have HQ := Lib.hid (And.intro hnu4 (And.intro hop4 (And.intro hoa4 (And.intro hob4 (And.intro hbe4 hrs4)))))
      clear hat4 hnu4 hop4 hoa4 hob4 hbe4 hHeld k9' k10' f9 f10
      have r0 := cell_of hrs4 0
      have r1 := cell_of hrs4 1
      have r2 := cell_of hrs4 2
      have r3 := cell_of hrs4 3
      have r4 := cell_of hrs4 4
      have r5 := cell_of hrs4 5
      have r6 := cell_of hrs4 6
      have r7 := cell_of hrs4 7
      have r8 := cell_of hrs4 8
      have r9 := cell_of hrs4 9
      have r10 := cell_of hrs4 10
      simp at r0 r1 r2 r3 r4 r5 r6 r7 r8 r9 r10
      clear hrs4
      have HZ5 := Lib.hid (setCells_at (w.heap.size + 1) [.int .i64 kd, .int .i64 fr, .int .i64 tt, .int .i64 g, .int .i64 nd, .int .i64 tr, .int .i64 lw, .int .i64 co, .int .i64 ti, .slice A1 tl.length c1, .slice A2 os.length c2] [] [.int .i64 0, .int .i64 0, .int .i64 0, .int .i64 0, .int .i64 0, .int .i64 0, .int .i64 0, .int .i64 0, .int .i64 0, .slice none 0 0, .slice none 0 0] W4 rfl HQ.out.2.2.2.2.2)
      have HT5 := Lib.hid (setCells_touch (S := fun k => k = w.heap.size + 1) (a := W4) (w.heap.size + 1) (fun _ => rfl) [.int .i64 kd, .int .i64 fr, .int .i64 tt, .int .i64 g, .int .i64 nd, .int .i64 tr, .int .i64 lw, .int .i64 co, .int .i64 ti, .slice A1 tl.length c1, .slice A2 os.length c2] 0 W4 (Touch.refl _ _))
      go_wp2_with fail
      change bodyPost _ _ _ _ _ (World.setCells _ (w.heap.size + 1) 0 [.int .i64 kd, .int .i64 fr, .int .i64 tt, .int .i64 g, .int .i64 nd, .int .i64 tr, .int .i64 lw, .int .i64 co, .int .i64 ti, .slice A1 tl.length c1, .slice A2 os.length c2])
      simp only [List.length_nil, List.nil_append] at HZ5
      generalize World.setCells _ (w.heap.size + 1) 0 [.int .i64 kd, .int .i64 fr, .int .i64 tt, .int .i64 g, .int .i64 nd, .int .i64 tr, .int .i64 lw, .int .i64 co, .int .i64 ti, .slice A1 tl.length c1, .slice A2 os.length c2] = W5 at *
      clear m0 m1 m2 m3 m4 m5 m6 m7 m8 m9 m10 r0 r1 r2 r3 r4 r5 r6 r7 r8 r9 r10
      have j0 := cell_of HZ5.out 0
      have j1 := cell_of HZ5.out 1
      have j2 := cell_of HZ5.out 2
      have j3 := cell_of HZ5.out 3
      have j4 := cell_of HZ5.out 4
      have j5 := cell_of HZ5.out 5
      have j6 := cell_of HZ5.out 6
      have j7 := cell_of HZ5.out 7
      have j8 := cell_of HZ5.out 8
      have j9 := cell_of HZ5.out 9
      have j10 := cell_of HZ5.out 10
      simp at j0 j1 j2 j3 j4 j5 j6 j7 j8 j9 j10
      refine bodyPost_ret (v := .agg #[.int .i64 kd, .int .i64 fr, .int .i64 tt, .int .i64 g, .int .i64 nd, .int .i64 tr, .int .i64 lw, .int .i64 co, .int .i64 ti, .slice A1 tl.length c1, .slice A2 os.length c2]) (by simp [results, Tryz.results91, go_sem, j0, j1, j2, j3, j4, j5, j6, j7, j8, j9, j10]) rfl ?_
      exact fin_ret (m := ⟨kd, fr, tt, g, nd, tr, lw, co, ti, tl, os⟩) HQ.out.1 HQ.out.2.1 HQ.out.2.2.1 HQ.out.2.2.2.1 HQ.out.2.2.2.2.1 HT5.out
    · refine AllReadyH.cons (o := { dst := some 7, op := Op.load 35 (Operand.tmp 6), type := 35, pos := "request.go:72", after := #[{ on := 3, ground := Ground.data }], guard := none }) rfl (fun K hK => ?step11) ?more11
      case more11 => exact AllReadyH.nil
      ((go_simp; go_wp2_with fail))
      refine hK.out _ _ ?hS11 (fun hHeld => ?rr11)
      case hS11 => (trivial)
      clear hK K
      try simp only [Act.put, List.setIfInBounds_toArray, List.set_cons_zero, List.set_cons_succ]
      refine wpAnyH_ready (rs := [2]) (by kernel_rfl) (by simp) ?_
      refine AllReadyH.cons (o := { dst := some 5, op := Op.call { callee := Callee.value (Operand.func 125), args := #[Operand.tmp 4], argTypes := #[34] }, type := 34, pos := "request.go:72", after := #[{ on := 1, ground := Ground.data }], guard := none }) rfl (fun K hK => ?step12) ?more12
      case more12 => exact AllReadyH.nil
      ((go_simp; go_at_call 125; refine (HC1.out _ (below_drew (Below.refl WI.heap.size WI))).mono ?_; rintro e w2 ⟨v1, rfl, hr1, ho1, hb1⟩; obtain ⟨A1, c1, rfl, _⟩ := id hr1.form; go_wp2_with fail))
      refine hK.out _ _ ?hS12 (fun hHeld => ?rr12)
      case hS12 => (trivial)
      clear hK K
      try simp only [Act.put, List.setIfInBounds_toArray, List.set_cons_zero, List.set_cons_succ]
      have HX := Lib.hid ((below_drew (Below.refl WI.heap.size WI)).trans (hb1.mono (below_drew (Below.refl WI.heap.size WI)).size))
      have HR1 := Lib.hid (And.intro hr1 ho1)
      have k9 := HK9.out _ HX.out
      have k10 := HK10.out _ HX.out
      clear hr1 ho1 hb1
      refine wpAnyH_take (i := 6) (oi := { dst := some 9, op := Op.fieldAddr 50 (Operand.tmp 1) 7, type := 0, pos := "request.go:72", after := #[{ on := 0, ground := Ground.phase }, { on := 1, ground := Ground.phase }, { on := 2, ground := Ground.phase }, { on := 3, ground := Ground.phase }, { on := 4, ground := Ground.phase }, { on := 5, ground := Ground.textOnly Departure.lateStoresUnsure }], guard := none }) (v := ?vv13) rfl (by kernel_rfl) (by kernel_rfl) (by kernel_rfl) (fun _ _ _ h => h) ?hy13 (by assumption) ?rest13
      case hy13 => (refine Or.inl ⟨by rfl, ?_⟩; intro W hSw; (try dsimp only at hSw); go_simp; (try with_reducible rfl))
      try simp only [Act.put, List.setIfInBounds_toArray, List.set_cons_zero, List.set_cons_succ]
      refine wpAnyH_ready (rs := [5]) (by kernel_rfl) (by simp) ?_
      refine AllReadyH.cons (o := { dst := some 8, op := Op.call { callee := Callee.value (Operand.func 126), args := #[Operand.tmp 7], argTypes := #[35] }, type := 35, pos := "request.go:72", after := #[{ on := 4, ground := Ground.data }, { on := 2, ground := Ground.chain }], guard := none }) rfl (fun K hK => ?step14) ?more14
      case more14 => exact AllReadyH.nil
      ((go_simp; go_at_call 126; refine (HC2.out _ HX.out).mono ?_; rintro e w3 ⟨v2, rfl, hr2, ho2, hb2⟩; obtain ⟨A2, c2, rfl, _⟩ := id hr2.form; go_wp2_with fail))
      refine hK.out _ _ ?hS14 (fun hHeld => ?rr14)
      case hS14 => (trivial)
      clear hK K
      try simp only [Act.put, List.setIfInBounds_toArray, List.set_cons_zero, List.set_cons_succ]
      have HY := Lib.hid (HX.out.trans (hb2.mono HX.out.size))
      have HR1b := Lib.hid (HR1.out.1.below hb2)
      have HR2 := Lib.hid (And.intro hr2 ho2)
      have hA3 := HAT.out _ HY.out
      have f9 := free0 hA3 9
      have f10 := free0 hA3 10
      have k9' := cell_of hA3 9
      have k10' := cell_of hA3 10
      clear k9 k10 hr2 ho2 hb2
      simp at k9' k10'
      obtain ⟨W4, hW4, hfin⟩ := fin_clone HB.out HY.out HAT.out HRS.out HR1b.out HR1.out.2 (by simp) HR2.out.1 HR2.out.2 HX.out.size HSZ.out
      have HFIN := Lib.hid hfin
      clear hfin
      have HW4 := Lib.hid hW4
      clear hW4 hA3
      refine wpAnyH_ready (rs := [7]) (by kernel_rfl) (by simp) ?_
      refine AllReadyH.cons (o := { dst := none, op := Op.store 34 (Operand.tmp 9) (Operand.tmp 5), type := 0, pos := "request.go:72", after := #[{ on := 6, ground := Ground.data }, { on := 2, ground := Ground.data }, { on := 5, ground := Ground.chain }, { on := 0, ground := Ground.phase }, { on := 1, ground := Ground.phase }, { on := 2, ground := Ground.phase }, { on := 3, ground := Ground.phase }, { on := 4, ground := Ground.phase }, { on := 5, ground := Ground.textOnly Departure.lateStoresUnsure }], guard := none }) rfl (fun K hK => ?step15) ?more15
      case more15 => exact AllReadyH.nil
      ((go_simp; go_wp2_with fail))
      refine hK.out _ _ ?hS15 (fun hHeld => ?rr15)
      case hS15 => (trivial)
      clear hK K
      try simp only [Act.put, List.setIfInBounds_toArray, List.set_cons_zero, List.set_cons_succ]
      refine wpAnyH_take (i := 8) (oi := { dst := some 10, op := Op.fieldAddr 50 (Operand.tmp 1) 8, type := 0, pos := "request.go:72", after := #[{ on := 0, ground := Ground.phase }, { on := 1, ground := Ground.phase }, { on := 2, ground := Ground.phase }, { on := 3, ground := Ground.phase }, { on := 4, ground := Ground.phase }, { on := 5, ground := Ground.phase }, { on := 6, ground := Ground.phase }, { on := 7, ground := Ground.phase }], guard := none }) (v := ?vv16) rfl (by kernel_rfl) (by kernel_rfl) (by kernel_rfl) (fun _ _ _ h => h) ?hy16 (by assumption) ?rest16
      case hy16 => (refine Or.inl ⟨by rfl, ?_⟩; intro W hSw; (try dsimp only at hSw); go_simp; (try with_reducible rfl))
      try simp only [Act.put, List.setIfInBounds_toArray, List.set_cons_zero, List.set_cons_succ]
      refine wpAnyH_ready (rs := [9]) (by kernel_rfl) (by simp) ?_
      refine AllReadyH.cons (o := { dst := none, op := Op.store 35 (Operand.tmp 10) (Operand.tmp 8), type := 0, pos := "request.go:72", after := #[{ on := 8, ground := Ground.data }, { on := 5, ground := Ground.data }, { on := 7, ground := Ground.chain }, { on := 0, ground := Ground.phase }, { on := 1, ground := Ground.phase }, { on := 2, ground := Ground.phase }, { on := 3, ground := Ground.phase }, { on := 4, ground := Ground.phase }, { on := 5, ground := Ground.phase }, { on := 6, ground := Ground.phase }, { on := 7, ground := Ground.phase }], guard := none }) rfl (fun K hK => ?step17) ?more17
      case more17 => exact AllReadyH.nil
      ((go_simp; go_wp2_with fail))
      refine hK.out _ _ ?hS17 (fun hHeld => ?rr17)
      case hS17 => (trivial)
      clear hK K
      try simp only [Act.put, List.setIfInBounds_toArray, List.set_cons_zero, List.set_cons_succ]
      rw [← HW4.out]
      refine wpAnyH_done (by kernel_rfl) ?_ _
      dsimp only [onlyN]
      obtain ⟨hat4, hrs4, hfr4, hnu4, hop4, hoa4, hob4, hbe4⟩ := HFIN.out
      have m0 := cell_of hat4 0
      have m1 := cell_of hat4 1
      have m2 := cell_of hat4 2
      have m3 := cell_of hat4 3
      have m4 := cell_of hat4 4
      have m5 := cell_of hat4 5
      have m6 := cell_of hat4 6
      have m7 := cell_of hat4 7
      have m8 := cell_of hat4 8
      have m9 := cell_of hat4 9
      have m10 := cell_of hat4 10
      simp at m0 m1 m2 m3 m4 m5 m6 m7 m8 m9 m10
      have HQ := Lib.hid (And.intro hnu4 (And.intro hop4 (And.intro hoa4 (And.intro hob4 (And.intro hbe4 hrs4)))))
      clear hat4 hnu4 hop4 hoa4 hob4 hbe4 hHeld k9' k10' f9 f10
      have r0 := cell_of hrs4 0
      have r1 := cell_of hrs4 1
      have r2 := cell_of hrs4 2
      have r3 := cell_of hrs4 3
      have r4 := cell_of hrs4 4
      have r5 := cell_of hrs4 5
      have r6 := cell_of hrs4 6
      have r7 := cell_of hrs4 7
      have r8 := cell_of hrs4 8
      have r9 := cell_of hrs4 9
      have r10 := cell_of hrs4 10
      simp at r0 r1 r2 r3 r4 r5 r6 r7 r8 r9 r10
      clear hrs4
      have HZ5 := Lib.hid (setCells_at (w.heap.size + 1) [.int .i64 kd, .int .i64 fr, .int .i64 tt, .int .i64 g, .int .i64 nd, .int .i64 tr, .int .i64 lw, .int .i64 co, .int .i64 ti, .slice A1 tl.length c1, .slice A2 os.length c2] [] [.int .i64 0, .int .i64 0, .int .i64 0, .int .i64 0, .int .i64 0, .int .i64 0, .int .i64 0, .int .i64 0, .int .i64 0, .slice none 0 0, .slice none 0 0] W4 rfl HQ.out.2.2.2.2.2)
      have HT5 := Lib.hid (setCells_touch (S := fun k => k = w.heap.size + 1) (a := W4) (w.heap.size + 1) (fun _ => rfl) [.int .i64 kd, .int .i64 fr, .int .i64 tt, .int .i64 g, .int .i64 nd, .int .i64 tr, .int .i64 lw, .int .i64 co, .int .i64 ti, .slice A1 tl.length c1, .slice A2 os.length c2] 0 W4 (Touch.refl _ _))
      go_wp2_with fail
      change bodyPost _ _ _ _ _ (World.setCells _ (w.heap.size + 1) 0 [.int .i64 kd, .int .i64 fr, .int .i64 tt, .int .i64 g, .int .i64 nd, .int .i64 tr, .int .i64 lw, .int .i64 co, .int .i64 ti, .slice A1 tl.length c1, .slice A2 os.length c2])
      simp only [List.length_nil, List.nil_append] at HZ5
      generalize World.setCells _ (w.heap.size + 1) 0 [.int .i64 kd, .int .i64 fr, .int .i64 tt, .int .i64 g, .int .i64 nd, .int .i64 tr, .int .i64 lw, .int .i64 co, .int .i64 ti, .slice A1 tl.length c1, .slice A2 os.length c2] = W5 at *
      clear m0 m1 m2 m3 m4 m5 m6 m7 m8 m9 m10 r0 r1 r2 r3 r4 r5 r6 r7 r8 r9 r10
      have j0 := cell_of HZ5.out 0
      have j1 := cell_of HZ5.out 1
      have j2 := cell_of HZ5.out 2
      have j3 := cell_of HZ5.out 3
      have j4 := cell_of HZ5.out 4
      have j5 := cell_of HZ5.out 5
      have j6 := cell_of HZ5.out 6
      have j7 := cell_of HZ5.out 7
      have j8 := cell_of HZ5.out 8
      have j9 := cell_of HZ5.out 9
      have j10 := cell_of HZ5.out 10
      simp at j0 j1 j2 j3 j4 j5 j6 j7 j8 j9 j10
      refine bodyPost_ret (v := .agg #[.int .i64 kd, .int .i64 fr, .int .i64 tt, .int .i64 g, .int .i64 nd, .int .i64 tr, .int .i64 lw, .int .i64 co, .int .i64 ti, .slice A1 tl.length c1, .slice A2 os.length c2]) (by simp [results, Tryz.results91, go_sem, j0, j1, j2, j3, j4, j5, j6, j7, j8, j9, j10]) rfl ?_
      exact fin_ret (m := ⟨kd, fr, tt, g, nd, tr, lw, co, ti, tl, os⟩) HQ.out.1 HQ.out.2.1 HQ.out.2.2.1 HQ.out.2.2.2.1 HQ.out.2.2.2.2.1 HT5.out
  · refine AllReadyH.cons (o := { dst := some 7, op := Op.load 35 (Operand.tmp 6), type := 35, pos := "request.go:72", after := #[{ on := 3, ground := Ground.data }], guard := none }) rfl (fun K hK => ?step18) ?more18
    case more18 => exact AllReadyH.nil
    ((go_simp; go_wp2_with fail))
    refine hK.out _ _ ?hS18 (fun hHeld => ?rr18)
    case hS18 => (trivial)
    clear hK K
    try simp only [Act.put, List.setIfInBounds_toArray, List.set_cons_zero, List.set_cons_succ]
    refine wpAnyH_ready (rs := [1]) (by kernel_rfl) (by simp) ?_
    refine AllReadyH.cons (o := { dst := some 4, op := Op.load 34 (Operand.tmp 3), type := 34, pos := "request.go:72", after := #[{ on := 0, ground := Ground.data }], guard := none }) rfl (fun K hK => ?step19) ?more19
    case more19 => exact AllReadyH.nil
    ((go_simp; go_wp2_with fail))
    refine hK.out _ _ ?hS19 (fun hHeld => ?rr19)
    case hS19 => (trivial)
    clear hK K
    try simp only [Act.put, List.setIfInBounds_toArray, List.set_cons_zero, List.set_cons_succ]
    refine wpAnyH_ready (rs := [2]) (by kernel_rfl) (by simp) ?_
    refine AllReadyH.cons (o := { dst := some 5, op := Op.call { callee := Callee.value (Operand.func 125), args := #[Operand.tmp 4], argTypes := #[34] }, type := 34, pos := "request.go:72", after := #[{ on := 1, ground := Ground.data }], guard := none }) rfl (fun K hK => ?step20) ?more20
    case more20 => exact AllReadyH.nil
    ((go_simp; go_at_call 125; refine (HC1.out _ (below_drew (Below.refl WI.heap.size WI))).mono ?_; rintro e w2 ⟨v1, rfl, hr1, ho1, hb1⟩; obtain ⟨A1, c1, rfl, _⟩ := id hr1.form; go_wp2_with fail))
    refine hK.out _ _ ?hS20 (fun hHeld => ?rr20)
    case hS20 => (trivial)
    clear hK K
    try simp only [Act.put, List.setIfInBounds_toArray, List.set_cons_zero, List.set_cons_succ]
    have HX := Lib.hid ((below_drew (Below.refl WI.heap.size WI)).trans (hb1.mono (below_drew (Below.refl WI.heap.size WI)).size))
    have HR1 := Lib.hid (And.intro hr1 ho1)
    have k9 := HK9.out _ HX.out
    have k10 := HK10.out _ HX.out
    clear hr1 ho1 hb1
    refine wpAnyH_take (i := 6) (oi := { dst := some 9, op := Op.fieldAddr 50 (Operand.tmp 1) 7, type := 0, pos := "request.go:72", after := #[{ on := 0, ground := Ground.phase }, { on := 1, ground := Ground.phase }, { on := 2, ground := Ground.phase }, { on := 3, ground := Ground.phase }, { on := 4, ground := Ground.phase }, { on := 5, ground := Ground.textOnly Departure.lateStoresUnsure }], guard := none }) (v := ?vv21) rfl (by kernel_rfl) (by kernel_rfl) (by kernel_rfl) (fun _ _ _ h => h) ?hy21 (by assumption) ?rest21
    case hy21 => (refine Or.inl ⟨by rfl, ?_⟩; intro W hSw; (try dsimp only at hSw); go_simp; (try with_reducible rfl))
    try simp only [Act.put, List.setIfInBounds_toArray, List.set_cons_zero, List.set_cons_succ]
    refine wpAnyH_ready (rs := [5]) (by kernel_rfl) (by simp) ?_
    refine AllReadyH.cons (o := { dst := some 8, op := Op.call { callee := Callee.value (Operand.func 126), args := #[Operand.tmp 7], argTypes := #[35] }, type := 35, pos := "request.go:72", after := #[{ on := 4, ground := Ground.data }, { on := 2, ground := Ground.chain }], guard := none }) rfl (fun K hK => ?step22) ?more22
    case more22 => exact AllReadyH.nil
    ((go_simp; go_at_call 126; refine (HC2.out _ HX.out).mono ?_; rintro e w3 ⟨v2, rfl, hr2, ho2, hb2⟩; obtain ⟨A2, c2, rfl, _⟩ := id hr2.form; go_wp2_with fail))
    refine hK.out _ _ ?hS22 (fun hHeld => ?rr22)
    case hS22 => (trivial)
    clear hK K
    try simp only [Act.put, List.setIfInBounds_toArray, List.set_cons_zero, List.set_cons_succ]
    have HY := Lib.hid (HX.out.trans (hb2.mono HX.out.size))
    have HR1b := Lib.hid (HR1.out.1.below hb2)
    have HR2 := Lib.hid (And.intro hr2 ho2)
    have hA3 := HAT.out _ HY.out
    have f9 := free0 hA3 9
    have f10 := free0 hA3 10
    have k9' := cell_of hA3 9
    have k10' := cell_of hA3 10
    clear k9 k10 hr2 ho2 hb2
    simp at k9' k10'
    obtain ⟨W4, hW4, hfin⟩ := fin_clone HB.out HY.out HAT.out HRS.out HR1b.out HR1.out.2 (by simp) HR2.out.1 HR2.out.2 HX.out.size HSZ.out
    have HFIN := Lib.hid hfin
    clear hfin
    have HW4 := Lib.hid hW4
    clear hW4 hA3
    refine wpAnyH_ready (rs := [7]) (by kernel_rfl) (by simp) ?_
    refine AllReadyH.cons (o := { dst := none, op := Op.store 34 (Operand.tmp 9) (Operand.tmp 5), type := 0, pos := "request.go:72", after := #[{ on := 6, ground := Ground.data }, { on := 2, ground := Ground.data }, { on := 5, ground := Ground.chain }, { on := 0, ground := Ground.phase }, { on := 1, ground := Ground.phase }, { on := 2, ground := Ground.phase }, { on := 3, ground := Ground.phase }, { on := 4, ground := Ground.phase }, { on := 5, ground := Ground.textOnly Departure.lateStoresUnsure }], guard := none }) rfl (fun K hK => ?step23) ?more23
    case more23 => exact AllReadyH.nil
    ((go_simp; go_wp2_with fail))
    refine hK.out _ _ ?hS23 (fun hHeld => ?rr23)
    case hS23 => (trivial)
    clear hK K
    try simp only [Act.put, List.setIfInBounds_toArray, List.set_cons_zero, List.set_cons_succ]
    refine wpAnyH_take (i := 8) (oi := { dst := some 10, op := Op.fieldAddr 50 (Operand.tmp 1) 8, type := 0, pos := "request.go:72", after := #[{ on := 0, ground := Ground.phase }, { on := 1, ground := Ground.phase }, { on := 2, ground := Ground.phase }, { on := 3, ground := Ground.phase }, { on := 4, ground := Ground.phase }, { on := 5, ground := Ground.phase }, { on := 6, ground := Ground.phase }, { on := 7, ground := Ground.phase }], guard := none }) (v := ?vv24) rfl (by kernel_rfl) (by kernel_rfl) (by kernel_rfl) (fun _ _ _ h => h) ?hy24 (by assumption) ?rest24
    case hy24 => (refine Or.inl ⟨by rfl, ?_⟩; intro W hSw; (try dsimp only at hSw); go_simp; (try with_reducible rfl))
    try simp only [Act.put, List.setIfInBounds_toArray, List.set_cons_zero, List.set_cons_succ]
    refine wpAnyH_ready (rs := [9]) (by kernel_rfl) (by simp) ?_
    refine AllReadyH.cons (o := { dst := none, op := Op.store 35 (Operand.tmp 10) (Operand.tmp 8), type := 0, pos := "request.go:72", after := #[{ on := 8, ground := Ground.data }, { on := 5, ground := Ground.data }, { on := 7, ground := Ground.chain }, { on := 0, ground := Ground.phase }, { on := 1, ground := Ground.phase }, { on := 2, ground := Ground.phase }, { on := 3, ground := Ground.phase }, { on := 4, ground := Ground.phase }, { on := 5, ground := Ground.phase }, { on := 6, ground := Ground.phase }, { on := 7, ground := Ground.phase }], guard := none }) rfl (fun K hK => ?step25) ?more25
    case more25 => exact AllReadyH.nil
    ((go_simp; go_wp2_with fail))
    refine hK.out _ _ ?hS25 (fun hHeld => ?rr25)
    case hS25 => (trivial)
    clear hK K
    try simp only [Act.put, List.setIfInBounds_toArray, List.set_cons_zero, List.set_cons_succ]
    rw [← HW4.out]
    refine wpAnyH_done (by kernel_rfl) ?_ _
    dsimp only [onlyN]
    obtain ⟨hat4, hrs4, hfr4, hnu4, hop4, hoa4, hob4, hbe4⟩ := HFIN.out
    have m0 := cell_of hat4 0
    have m1 := cell_of hat4 1
    have m2 := cell_of hat4 2
    have m3 := cell_of hat4 3
    have m4 := cell_of hat4 4
    have m5 := cell_of hat4 5
    have m6 := cell_of hat4 6
    have m7 := cell_of hat4 7
    have m8 := cell_of hat4 8
    have m9 := cell_of hat4 9
    have m10 := cell_of hat4 10
    simp at m0 m1 m2 m3 m4 m5 m6 m7 m8 m9 m10
    have HQ := Lib.hid (And.intro hnu4 (And.intro hop4 (And.intro hoa4 (And.intro hob4 (And.intro hbe4 hrs4)))))
    clear hat4 hnu4 hop4 hoa4 hob4 hbe4 hHeld k9' k10' f9 f10
    have r0 := cell_of hrs4 0
    have r1 := cell_of hrs4 1
    have r2 := cell_of hrs4 2
    have r3 := cell_of hrs4 3
    have r4 := cell_of hrs4 4
    have r5 := cell_of hrs4 5
    have r6 := cell_of hrs4 6
    have r7 := cell_of hrs4 7
    have r8 := cell_of hrs4 8
    have r9 := cell_of hrs4 9
    have r10 := cell_of hrs4 10
    simp at r0 r1 r2 r3 r4 r5 r6 r7 r8 r9 r10
    clear hrs4
    have HZ5 := Lib.hid (setCells_at (w.heap.size + 1) [.int .i64 kd, .int .i64 fr, .int .i64 tt, .int .i64 g, .int .i64 nd, .int .i64 tr, .int .i64 lw, .int .i64 co, .int .i64 ti, .slice A1 tl.length c1, .slice A2 os.length c2] [] [.int .i64 0, .int .i64 0, .int .i64 0, .int .i64 0, .int .i64 0, .int .i64 0, .int .i64 0, .int .i64 0, .int .i64 0, .slice none 0 0, .slice none 0 0] W4 rfl HQ.out.2.2.2.2.2)
    have HT5 := Lib.hid (setCells_touch (S := fun k => k = w.heap.size + 1) (a := W4) (w.heap.size + 1) (fun _ => rfl) [.int .i64 kd, .int .i64 fr, .int .i64 tt, .int .i64 g, .int .i64 nd, .int .i64 tr, .int .i64 lw, .int .i64 co, .int .i64 ti, .slice A1 tl.length c1, .slice A2 os.length c2] 0 W4 (Touch.refl _ _))
    go_wp2_with fail
    change bodyPost _ _ _ _ _ (World.setCells _ (w.heap.size + 1) 0 [.int .i64 kd, .int .i64 fr, .int .i64 tt, .int .i64 g, .int .i64 nd, .int .i64 tr, .int .i64 lw, .int .i64 co, .int .i64 ti, .slice A1 tl.length c1, .slice A2 os.length c2])
    simp only [List.length_nil, List.nil_append] at HZ5
    generalize World.setCells _ (w.heap.size + 1) 0 [.int .i64 kd, .int .i64 fr, .int .i64 tt, .int .i64 g, .int .i64 nd, .int .i64 tr, .int .i64 lw, .int .i64 co, .int .i64 ti, .slice A1 tl.length c1, .slice A2 os.length c2] = W5 at *
    clear m0 m1 m2 m3 m4 m5 m6 m7 m8 m9 m10 r0 r1 r2 r3 r4 r5 r6 r7 r8 r9 r10
    have j0 := cell_of HZ5.out 0
    have j1 := cell_of HZ5.out 1
    have j2 := cell_of HZ5.out 2
    have j3 := cell_of HZ5.out 3
    have j4 := cell_of HZ5.out 4
    have j5 := cell_of HZ5.out 5
    have j6 := cell_of HZ5.out 6
    have j7 := cell_of HZ5.out 7
    have j8 := cell_of HZ5.out 8
    have j9 := cell_of HZ5.out 9
    have j10 := cell_of HZ5.out 10
    simp at j0 j1 j2 j3 j4 j5 j6 j7 j8 j9 j10
    refine bodyPost_ret (v := .agg #[.int .i64 kd, .int .i64 fr, .int .i64 tt, .int .i64 g, .int .i64 nd, .int .i64 tr, .int .i64 lw, .int .i64 co, .int .i64 ti, .slice A1 tl.length c1, .slice A2 os.length c2]) (by simp [results, Tryz.results91, go_sem, j0, j1, j2, j3, j4, j5, j6, j7, j8, j9, j10]) rfl ?_
    exact fin_ret (m := ⟨kd, fr, tt, g, nd, tr, lw, co, ti, tl, os⟩) HQ.out.1 HQ.out.2.1 HQ.out.2.2.1 HQ.out.2.2.2.1 HQ.out.2.2.2.2.1 HT5.out
end Go.Proofs.YtfddlhcdlgdofaaGreatDoor

namespace Go.Proofs.YtfddlhcdlgdofaaGreatDoor
open Go.RowKit Go.Shelf

/-- May that be asked? -/
def askM (m : MsgV) : Bool := decide (1 ≤ m.kd ∧ m.kd ≤ 4) && mayM m
/-- What asks and the like answer: nothing, or an error of that number. -/
def AskP (ok : Bool) (w : World) (e : Ending) (w' : World) : Prop := (ok = true ∧ e = .returned .nilIface ∧ Below w.heap.size w w') ∨ (ok = false ∧ ∃ v, e = .returned v ∧ ErrQ 2 w v w')
set_option maxRecDepth 100000 in
set_option maxHeartbeats 4000000 in
theorem asks_any {w : World} {v : Value} {m : MsgV} (hG : Glob w) (h : MsgIs w v m) :
    Calls Tryz.prog 90 #[v] w (AskP (askM m) w) := by
  have HMY := Lib.hid (fun W (hW : Below w.heap.size w W) => May_any (hG.below hW) (h.below hW))
  obtain ⟨tA, tc, oA, oc, rfl, ht, ho, hk⟩ := h
  have hE : ∀ W : World, ErrIs W [.num 2] (.iface 159 (.agg #[.int .i64 2])) := fun W => ⟨rfl, rfl⟩
  have HN := Lib.hid (fun W => new_num 2 (by decide) W)
  have HI := Lib.hid (fun W => in_some ⟨#[114, 101, 113, 117, 101, 115, 116]⟩ 159 (.agg #[.int .i64 2]) W)
  have HEND : Hid (∀ W W2 : World, Below w.heap.size w W → W2 = W.alloc (.cells #[.iface 159 (.agg #[.int .i64 2]), .string ⟨#[114, 101, 113, 117, 101, 115, 116]⟩] 200) → ErrQ 2 w (.iface 198 (.pointer (some ⟨W.heap.size, 0, none⟩))) W2) := Lib.hid (fun W W2 hW e => by
    subst e
    exact ⟨⟨_, _, rfl⟩, ⟨[.nam ⟨#[114, 101, 113, 117, 101, 115, 116]⟩, .num 2], ⟨by simp, _, _, rfl, alloc_at _ _, rfl, rfl⟩, numOk_cons (by simp) (numOk_one (by decide)), by simp, rfl⟩, hW.trans ((below_new _).mono hW.size)⟩)
  have ha : askM m = (decide (1 ≤ m.kd ∧ m.kd ≤ 4) && mayM m) := rfl
  obtain ⟨mb, hmb⟩ : ∃ b, mayM m = b := ⟨_, rfl⟩
  rw [hmb] at HMY ha
  obtain ⟨ab, hab⟩ : ∃ b, askM m = b := ⟨_, rfl⟩
  rw [hab] at ha ⊢
  have HA := Lib.hid ha
  obtain ⟨kd, fr, tt, g, nd, tr, lw, co, ti, tl, os⟩ := m
  simp only at HMY HA ⊢
  have hb0 := below_new (w := w) (.cells #[.int .i64 kd, .int .i64 fr, .int .i64 tt, .int .i64 g, .int .i64 nd, .int .i64 tr, .int .i64 lw, .int .i64 co, .int .i64 ti, .slice tA tl.length tc, .slice oA os.length oc] 50)
  have HB0 := Lib.hid hb0
  have hat := alloc_at w (.cells #[.int .i64 kd, .int .i64 fr, .int .i64 tt, .int .i64 g, .int .i64 nd, .int .i64 tr, .int .i64 lw, .int .i64 co, .int .i64 ti, .slice tA tl.length tc, .slice oA os.length oc] 50)
  have m0 := cell_of hat 0
  have m1 := cell_of hat 1
  have m2 := cell_of hat 2
  have m3 := cell_of hat 3
  have m4 := cell_of hat 4
  have m5 := cell_of hat 5
  have m6 := cell_of hat 6
  have m7 := cell_of hat 7
  have m8 := cell_of hat 8
  have m9 := cell_of hat 9
  have m10 := cell_of hat 10
  simp at m0 m1 m2 m3 m4 m5 m6 m7 m8 m9 m10
  clear ht ho hk hG ha hmb hab hb0 hat hE
  by_cases hk : 1 ≤ kd ∧ kd ≤ 4
  · have HAB : Hid (ab = mb) := Lib.hid (by rw [HA.out, decide_eq_true hk, Bool.true_and])
    have hk4 : kd = 1 ∨ kd = 2 ∨ kd = 3 ∨ kd = 4 := by omega
    clear hk
    cases mb with
    | true =>
      rcases hk4 with rfl | rfl | rfl | rfl
      all_goals
        go_enter Tryz.func90, Tryz.ntmps90
        go_wp2_with fail
        refine (HMY.out _ HB0.out).mono ?_
        rintro e w1 ⟨rfl, hb1⟩
        have HB1 := Lib.hid (HB0.out.trans (hb1.mono HB0.out.size))
        clear hb1
        go_wp2_with fail
        go_ret
        exact .inl ⟨HAB.out, rfl, HB1.out⟩
    | false =>
      rcases hk4 with rfl | rfl | rfl | rfl
      all_goals
        go_enter Tryz.func90, Tryz.ntmps90
        go_wp2_with fail
        refine (HMY.out _ HB0.out).mono ?_
        rintro e w1 ⟨rfl, hb1⟩
        have HB1 := Lib.hid (HB0.out.trans (hb1.mono HB0.out.size))
        clear hb1
        go_wp2_with fail
        refine (HN.out _).mono ?_
        rintro e w2 ⟨rfl, rfl⟩
        go_wp2_with fail
        refine (HI.out _).mono ?_
        rintro e w3 ⟨rfl, hw3⟩
        have H3 := Lib.hid (HEND.out _ _ HB1.out hw3.symm)
        clear hw3
        go_wp2_with fail
        go_ret
        exact .inr ⟨HAB.out, _, rfl, H3.out⟩
  · have HAB : Hid (ab = false) := Lib.hid (by rw [HA.out, decide_eq_false hk, Bool.false_and])
    have q1 : (kd == 1) = false := by simp; omega
    have q2 : (kd == 2) = false := by simp; omega
    have q3 : (kd == 3) = false := by simp; omega
    have q4 : (kd == 4) = false := by simp; omega
    clear hk
    go_enter Tryz.func90, Tryz.ntmps90
    go_wp2_with fail
    refine (HN.out _).mono ?_
    rintro e w2 ⟨rfl, rfl⟩
    go_wp2_with fail
    refine (HI.out _).mono ?_
    rintro e w3 ⟨rfl, hw3⟩
    have H3 : Hid (ErrQ 2 w (.iface 198 (.pointer (some ⟨w.heap.size + 1, 0, none⟩))) w3) := Lib.hid (by have h3 := HEND.out _ _ HB0.out hw3.symm; rwa [asz] at h3)
    clear hw3
    go_wp2_with fail
    go_ret
    exact .inr ⟨HAB.out, _, rfl, H3.out⟩
set_option maxRecDepth 100000 in
/-- A box that is made. -/
theorem pnew_ok {w : World} {ev : Int} (h1 : 1 ≤ ev) (h2 : ev ≤ 1000) : Calls Tryz.prog 36 #[.int .i64 ev] w fun e w' => ∃ b mp, e = .returned (.tuple #[.pointer (some ⟨b, 0, none⟩), .int .i64 0]) ∧ BoxAt w' b mp ev [] 0 (fun _ => False) ∧ w.heap.size ≤ b ∧ w.heap.size ≤ mp ∧ Below w.heap.size w w' := by
  have HW := Lib.hid (pwithin_ok (w := w) h1 h2)
  have hmm := @run_makeMap Tryz.prog
  clear h1 h2
  go_enter Tryz.func36, Tryz.ntmps36
  go_wp2_with fail
  refine (HW.out).mono ?_
  rintro e w1 ⟨rfl, rfl⟩
  go_wp2_with fail
  refine bodyPost_ret (v := .tuple #[.pointer (some ⟨w1.heap.size + 1, 0, none⟩), .int .i64 0]) (by simp [results, Tryz.results36, go_sem]) rfl ?_
  have hb : Below w1.heap.size w1 ((w1.alloc (.map #[] 0)).alloc (.cells #[.int .i64 ev, .map (some w1.heap.size)] 143)) := (below_new _).trans ((below_new _).mono (by rw [asz]; exact Nat.le_succ _))
  refine ⟨w1.heap.size + 1, w1.heap.size, rfl, ⟨?_, ?_, by simp, by simp, by simp, by simp, by simp, by simp, by simp, by simp, fun _ h => h.elim, ⟨id, id, by omega⟩, by simp⟩, by omega, by omega, hb⟩
  · have := alloc_at (w1.alloc (.map #[] 0)) (.cells #[.int .i64 ev, .map (some w1.heap.size)] 143)
    rwa [asz] at this
  · exact (MapIs.made Tryz.prog 3 w1).keep ((below_new _).block _ (by rw [asz]; exact Nat.lt_succ_self _))
end Go.Proofs.YtfddlhcdlgdofaaGreatDoor

namespace Go.Proofs.YtfddlhcdlgdofaaGreatDoor
open Go.RowKit Go.Sort Go.Shelf

theorem prow_own {w : World} {base : Nat} {e : TypeId} {z : Nat} {v : Value} {n : Nat} {xs : List Value} (h : w.ownsRow base e z v n xs) : RowIs w z v n xs ∧ ∀ g, v.ownBlock = some g → base ≤ g := by
  obtain ⟨h0, ⟨rfl, rfl⟩ | ⟨g, cap, cur, rfl, hg, hh, hn, hc, hs, ht⟩⟩ := h
  · exact ⟨.inl ⟨rfl, rfl, List.eq_nil_of_length_eq_zero (by simpa using h0)⟩, fun g h => by cases h⟩
  · refine ⟨.inr ⟨g, cap, rfl, h0, hn, heap_lt hh, by rw [h0]; exact Nat.mul_le_mul_right _ hn, hc, fun j b hj => ?_, fun j hj => ⟨?_, free0 hh j⟩⟩, fun g' h => by cases h; exact hg⟩
    · rw [cell_of hh]
      rw [← ht, List.getElem?_take] at hj
      split at hj
      · simpa using hj
      · cases hj
    · rw [cell_of hh, Array.getElem?_eq_getElem (by omega)]; rfl
theorem sortsP (m : Nat) : AnyZI.SortsIn Tryz.prog Tryz.sortedA_ren Fence.wide m :=
  ⟨fun blk off cap ss W hH hblk hsz => callsIn_wide.2 (AnyM.slices_Sort_int Tryz.sortA blk off cap ss W hH hblk hsz),
   fun p cap W => callsIn_wide.2 (AnyM.slices_Sort_int_none Tryz.sortA p cap W)⟩
theorem pkeys_any (mo : Option Nat) (W : World) : Calls Tryz.prog 86 #[.map mo] W fun e w' => e = .returned (.func (.func 120) #[] #[.pointer (some ⟨W.heap.size, 0, none⟩)]) ∧ w' = W.alloc (.cells #[.map mo] 141) :=
  callsIn_wide.1 (AnyZI.keys_in Tryz.keysA Fence.wide 5 trivial rfl mo W)
def anyP : Value → Option (DataW Unit × List MemPlace) := fun _ => some (.nil, [])
theorem powns_any {w : World} {m c : Nat} {L : List MapEntry} (h : MapIs Tryz.prog 3 w m L c) (hL : L.length ≤ maxLen) : w.ownsMap Tryz.prog 3 anyP m L.length (.map ((L.map (Go.WideElems.rg Tryz.prog 3 anyP)).foldr DataW.insert [])) := by
  refine ⟨L.toArray, c, h.at_, ⟨by simpa using hL, ⟨by simpa using h.born, by simpa using h.apart, by simpa using h.one⟩, fun x hx => ?_⟩, by simp, by simp⟩
  obtain ⟨l, hl⟩ := h.keys x (by simpa using hx)
  exact ⟨_, by unfold Go.WideElems.rd anyP; rw [hl]; rfl⟩
theorem pkeys_perm {w : World} {m c : Nat} {L : List Rq} (h : MapIs Tryz.prog 3 w m (L.map Rq.me) c) (hn : ∀ e ∈ L, mayM e.m = true) : (intKeys (.map (((L.map Rq.me).map (Go.WideElems.rg Tryz.prog 3 anyP)).foldr DataW.insert []) : DataW Unit)).Perm (L.map (·.m.g)) := by
  have h1 := (Go.WideShapes.sorted_perm ((L.map Rq.me).map (Go.WideElems.rg Tryz.prog 3 anyP))).map (fun p : Lit × DataW Unit => Go.intOf p.1)
  refine h1.trans ?_
  rw [List.map_map, List.map_map]
  refine List.Perm.of_eq (List.map_congr_left fun e he => ?_)
  have hb := mayM_g (hn e he)
  have := key_g (n := e.m.g) (by omega) (by omega)
  simp only [Function.comp, Go.WideElems.rg, Go.WideElems.rd, anyP, Rq.me, this]
  rfl
/-- What Open tells. -/
def OpenP (w : World) (L : List Rq) (x : Ending) (w' : World) : Prop := ∃ (v : Value) (ns : List Int), x = .returned v ∧ RowIs w' 1 v ns.length (ns.map (Value.int .i64)) ∧ ns.Perm (L.map (·.m.g)) ∧ ns.Pairwise (· ≤ ·) ∧ (∀ g, v.ownBlock = some g → w.heap.size ≤ g) ∧ Below w.heap.size w w'
theorem psorted_post {ss : List Int} {v : Value} {w' : World} {base : Nat} {L : List Rq} (hS : ss.Perm (L.map (·.m.g))) (hrow : w'.ownsRow base 3 1 v ss.length ((ss.mergeSort (fun x y => decide (x ≤ y))).map encZ)) :
    ∃ ns : List Int, RowIs w' 1 v ns.length (ns.map (Value.int .i64)) ∧ ns.Perm (L.map (·.m.g)) ∧ ns.Pairwise (· ≤ ·) ∧ ∀ g, v.ownBlock = some g → base ≤ g := by
  have hl := List.length_mergeSort (le := fun x y => decide (x ≤ y)) ss
  obtain ⟨h1, h2⟩ := prow_own hrow
  refine ⟨ss.mergeSort (fun x y => decide (x ≤ y)), by rw [hl]; exact h1, (List.mergeSort_perm _ _).trans hS, ?_, h2⟩
  have := List.pairwise_mergeSort (le := fun x y => decide (x ≤ y)) (by intro a b c; simp; omega) (by intro a b; simp; omega) ss
  exact this.imp (by simp)
set_option maxRecDepth 100000 in
set_option maxHeartbeats 1000000 in
theorem open_any {w : World} {b mp : Nat} {ev : Int} {L : List Rq} {c : Nat} {R : Nat → Prop} (h : BoxAt w b mp ev L c R) (hL : L.length ≤ 1000000) : Calls Tryz.prog 39 #[.pointer (some ⟨b, 0, none⟩)] w (OpenP w L) := by
  have hc : w.cell? ⟨b, 1, none⟩ = some (.map (some mp)) := cell_of h.head 1
  have HK := Lib.hid (pkeys_any (some mp) w)
  have HNO := Lib.hid (pnone_any h.head)
  have hb0 := below_new (w := w) (.cells #[.map (some mp)] 141)
  have hcb : (w.alloc (.cells #[.map (some mp)] 141)).cell? ⟨w.heap.size, 0, none⟩ = some (.map (some mp)) := cell_of (alloc_at w _) 0
  have hS : Calls Tryz.prog 77 #[.func (.func 120) #[] #[.pointer (some ⟨w.heap.size, 0, none⟩)]] (w.alloc (.cells #[.map (some mp)] 141)) (OpenP w L) := by
    have hm := h.map
    have hlt := MapIs.lt hm
    have hm' : MapIs Tryz.prog 3 (w.alloc (.cells #[.map (some mp)] 141)) mp (L.map Rq.me) c := hm.keep (Below.heap_alloc _ _ _ hlt)
    have h64 : (L.map Rq.me).length ≤ 1000000 := by rw [List.length_map]; exact hL
    have hown := powns_any hm' (by unfold maxLen; omega)
    have hsz : Maps.size (.map (((L.map Rq.me).map (Go.WideElems.rg Tryz.prog 3 anyP)).foldr DataW.insert []) : DataW Unit) ≤ 1000000 := Nat.le_trans hown.size_le h64
    have hseq : SeqGives Fence.wide 2 Tryz.prog 120 #[.pointer (some ⟨w.heap.size, 0, none⟩)] encZ (fun ss => ss.Perm (intKeys (.map (((L.map Rq.me).map (Go.WideElems.rg Tryz.prog 3 anyP)).foldr DataW.insert []) : DataW Unit))) (Maps.size (.map (((L.map Rq.me).map (Go.WideElems.rg Tryz.prog 3 anyP)).foldr DataW.insert []) : DataW Unit)) (w.alloc (.cells #[.map (some mp)] 141)) :=
      AnyZI.keys_gives (ρ := Tryz.keysA_ren) { Tryz.keysA with } Fence.wide _ trivial rfl (by omega) w.heap.size mp _ _ _ (by rw [asz]; omega) hcb hown
    have cS := AnyZI.sorted_in Tryz.sortedA Fence.wide 5 trivial trivial trivial trivial rfl (by omega) (sortsP _) (enters_of Tryz.func118 (by kernel_rfl) rfl) 120 #[.pointer (some ⟨w.heap.size, 0, none⟩)] trivial (enters_of Tryz.func120 (by kernel_rfl) rfl) _ _ (by unfold maxLen; omega) (by omega) _ hseq
    refine (callsIn_wide.1 cS).mono ?_
    rintro e w' ⟨v, ss, rfl, hp, hrow, hnil, hb⟩
    obtain ⟨ns, h1, h2, h3, h4⟩ := psorted_post (hp.trans (pkeys_perm hm h.may)) hrow
    exact ⟨v, ns, rfl, h1, h2, h3, fun g hg => by have := h4 g hg; rw [asz] at this; omega, hb0.trans (hb.mono hb0.size)⟩
  have HS := Lib.hid hS
  clear h hb0 hcb hS
  go_enter Tryz.func39, Tryz.ntmps39
  go_wp2_with fail
  refine (HNO.out).mono ?_
  rintro e w1 ⟨rfl, rfl⟩
  go_wp2_with fail
  refine (HK.out).mono ?_
  rintro e w1 ⟨rfl, rfl⟩
  go_wp2_with fail
  refine (HS.out).mono ?_
  rintro e w2 ⟨v, ns, rfl, h⟩
  have H := Lib.hid h
  clear h
  go_wp2
  go_ret
  exact ⟨v, ns, rfl, H.out⟩
set_option maxRecDepth 100000 in
theorem open_nil (w : World) : Calls Tryz.prog 39 #[.pointer none] w fun e w' => e = .returned (.slice none 0 0) ∧ w' = w := by
  have HNO := Lib.hid (pnone_nil w)
  go_enter Tryz.func39, Tryz.ntmps39
  go_wp2_with fail
  refine (HNO.out).mono ?_
  rintro e w1 ⟨rfl, rfl⟩
  go_wp2_with fail
  go_ret
  exact ⟨rfl, rfl⟩
end Go.Proofs.YtfddlhcdlgdofaaGreatDoor
