/- lock: take. -/
import Derived.Test.YtmchmlkbpocboaaGreatDoorZLokG
import Derived.Test.YtmchmlkbpocboaaGreatDoorZLokD
import Derived.Test.YtmchmlkbpocboaaGreatDoorZLpA
set_option linter.unusedSimpArgs false
set_option linter.unusedVariables false
set_option linter.unnecessarySimpa false
namespace Go.Proofs.YtmchmlkbpocboaaGreatDoor
open Go.RowKit

theorem takeP_eq (l : Ln) (c : Cm) : takeP l c = if (decide (c.who ∈ l.held) && (l.mine || !c.mine)) = true then (l, true) else if (letsP l c && (decide (c.who ∈ l.held) || l.row.isEmpty)) = true then (giveP l c, true) else ({ l with row := putAt l.row (placeP l (decide (c.who ∈ l.held))) c }, false) := by
  unfold takeP
  simp only [List.contains_eq_mem]
/-- take, by three facts. -/
def takeQ (l : Ln) (c : Cm) (d m cm : Bool) : Ln × Bool := if (d && (m || !cm)) = true then (l, true) else if (letsP l c && (d || l.row.isEmpty)) = true then (giveP l c, true) else ({ l with row := putAt l.row (placeP l d) c }, false)
theorem takeQ_eq (l : Ln) (c : Cm) : takeP l c = takeQ l c (decide (c.who ∈ l.held)) l.mine c.mine := by
  unfold takeQ
  exact takeP_eq l c
def TakeP (w : World) (b gh : Nat) (rv : Value) (l : Ln) (q : Ln × Bool) (e : Ending) (w' : World) : Prop := ∃ rv', e = .returned (.bool q.2) ∧ LnAt w' b gh rv' q.1 ∧ Touch (fun k => k = b ∨ k = gh ∨ rv.ownBlock = some k) w w' ∧ (rv'.ownBlock = rv.ownBlock ∨ ∀ g, rv'.ownBlock = some g → w.heap.size ≤ g)
theorem take_fin {w W w6 : World} {b gh : Nat} {rv v' : Value} {l : Ln} {r : List Cm} (h : LnAt w b gh rv l) (hb : Below w.heap.size w W) (hr : RowA w6 2 v' r.length (cmC r)) (ho : v'.ownBlock = rv.ownBlock ∨ ∀ g, v'.ownBlock = some g → W.heap.size ≤ g) (ht : Touch (fun k => rv.ownBlock = some k) W w6) (hn : ∀ c ∈ r, InR64 c.who) :
    LnAt (w6.setCell ⟨b, 2, none⟩ v') b gh v' { l with row := r } ∧ Touch (fun k => k = b ∨ k = gh ∨ rv.ownBlock = some k) w (w6.setCell ⟨b, 2, none⟩ v') ∧ (v'.ownBlock = rv.ownBlock ∨ ∀ g, v'.ownBlock = some g → w.heap.size ≤ g) := by
  have hW := h.below hb
  have hbl := heap_lt hW.head
  have hgl := hW.held.lt
  have hb6 := (ht.block b hbl hW.off.2.1).trans hW.head
  have hg6 : w6.heap[gh]? = W.heap[gh]? := ht.block gh hgl hW.off.2.2
  have hvb : v'.ownBlock ≠ some b := fun e => by
    rcases ho with ho | ho
    · rw [ho] at e; exact hW.off.2.1 e
    · have := ho b e; omega
  have hvg : v'.ownBlock ≠ some gh := fun e => by
    rcases ho with ho | ho
    · rw [ho] at e; exact hW.off.2.2 e
    · have := ho gh e; omega
  have hs : Touch (fun k => k = b) w6 (w6.setCell ⟨b, 2, none⟩ v') := (Touch.refl (fun k => k = b) w6).setCell ⟨b, 2, none⟩ (fun _ => rfl) _
  refine ⟨⟨?_, (hW.held.keep hg6).touch hs (fun e => hW.off.1 e), hr.touch hs (fun g hg e => hvb (by rw [hg, e])), hn, hW.off.1, hvb, hvg⟩, ?_, ?_⟩
  · have := set_at hb6 2 v'
    simpa using this
  · exact ((Touch.of_below (S := fun k => k = b ∨ k = gh ∨ rv.ownBlock = some k) hb).trans ht (fun k _ e => .inr (.inr e))).trans hs (fun k _ e => .inl e)
  · exact ho.imp id (fun h g hg => Nat.le_trans hb.size (h g hg))
set_option maxRecDepth 100000 in
set_option maxHeartbeats 4000000 in
theorem take_any {w : World} {b gh : Nat} {rv : Value} {l : Ln} {c : Cm} (h : LnAt w b gh rv l) (hw : InR64 c.who) (hl : l.held.length ≤ 100000) (hr : l.row.length ≤ 100000) : Calls Tryz.prog 76 #[.pointer (some ⟨b, 0, none⟩), .agg #[.int .i64 c.who, .bool c.mine]] w (TakeP w b gh rv l (takeP l c)) := by
  rw [takeQ_eq]
  have hb1 := below_new (w := w) (.cells #[.int .i64 c.who, .bool c.mine] 106)
  have hx1 := alloc_at w (.cells #[.int .i64 c.who, .bool c.mine] 106)
  obtain ⟨w1, hw1⟩ : ∃ w1, w1 = w.alloc (.cells #[.int .i64 c.who, .bool c.mine] 106) := ⟨_, rfl⟩
  rw [← hw1] at hb1 hx1
  have HW1 := Lib.hid hw1
  have h1 := h.below hb1
  have HO := Lib.hid (holds_any h1 hw)
  have c0 : w1.cell? ⟨w.heap.size, 0, none⟩ = some (.int .i64 c.who) := cell_of hx1 0
  have c0' := c0
  rw [hw1] at c0'
  have HC : Hid (∀ W, Below w1.heap.size w1 W → W.cell? ⟨w.heap.size, 0, none⟩ = some (.int .i64 c.who) ∧ W.cell? ⟨w.heap.size, 1, none⟩ = some (.bool c.mine) ∧ W.cell? ⟨b, 1, none⟩ = some (.bool l.mine) ∧ W.cell? ⟨b, 2, none⟩ = some rv) := Lib.hid (fun W hW => by
    have e1 := (hW.block _ (heap_lt hx1)).trans hx1
    have e2 := (h1.below hW).head
    exact ⟨cell_of e1 0, cell_of e1 1, cell_of e2 1, cell_of e2 2⟩)
  have HB1 := Lib.hid hb1
  have HLE : Hid (∀ W, Below w1.heap.size w1 W → Calls Tryz.prog 70 #[.pointer (some ⟨b, 0, none⟩), .agg #[.int .i64 c.who, .bool c.mine]] W fun e w' => e = .returned (.bool (letsP l c)) ∧ Below W.heap.size W w') := Lib.hid (fun W hW => lets_any (h1.below hW) hw hl)
  have HGI : Hid (∀ W, Below w1.heap.size w1 W → Calls Tryz.prog 71 #[.pointer (some ⟨b, 0, none⟩), .agg #[.int .i64 c.who, .bool c.mine]] W fun e w' => e = .returned (.tuple #[]) ∧ LnAt w' b gh rv (giveP l c) ∧ Touch (fun k => k = b ∨ k = gh) W w') := Lib.hid (fun W hW => give_any (h1.below hW) hw)
  have HPL : Hid (∀ (d : Bool) (W : World), Below w1.heap.size w1 W → Calls Tryz.prog 106 #[.pointer (some ⟨b, 0, none⟩), .bool d] W fun e w' => e = .returned (.int .i64 (placeP l d : Int)) ∧ Below W.heap.size W w') := Lib.hid (fun d W hW => place_any d (h1.below hW) hr)
  have HIN : Hid (∀ (d : Bool) (W : World) (B : Nat), Below w1.heap.size w1 W → w1.heap.size ≤ B → W.heap[B]? = some (.cells #[.int .i64 c.who, .bool c.mine] 106 (0, 0)) → Calls Tryz.prog 105 #[rv, .int .i64 (placeP l d : Int), .slice (some ⟨B, 0, none⟩) 1 1] W (InsK W rv (putAt l.row (placeP l d) c))) := Lib.hid (fun d W B hW hB hx => by
    refine insK_any (h1.below hW).row ?_ hr hx (fun e => ?_)
    · unfold placeP
      split
      · exact List.findIdx_le_length
      · exact Nat.le_refl _
    · have := h1.row.lt _ e
      omega)
  have HFIN : Hid (∀ (d : Bool) (W w6 : World) (v' : Value), Below w1.heap.size w1 W → RowA w6 2 v' (putAt l.row (placeP l d) c).length (cmC (putAt l.row (placeP l d) c)) → (v'.ownBlock = rv.ownBlock ∨ ∀ g, v'.ownBlock = some g → W.heap.size ≤ g) → Touch (fun k => rv.ownBlock = some k) W w6 → LnAt (w6.setCell ⟨b, 2, none⟩ v') b gh v' { l with row := putAt l.row (placeP l d) c } ∧ Touch (fun k => k = b ∨ k = gh ∨ rv.ownBlock = some k) w (w6.setCell ⟨b, 2, none⟩ v') ∧ (v'.ownBlock = rv.ownBlock ∨ ∀ g, v'.ownBlock = some g → w.heap.size ≤ g)) := Lib.hid (fun d W w6 v' hW hr6 ho ht => by
    refine take_fin h (hb1.trans (hW.mono hb1.size)) hr6 ho ht (fun x hx => ?_)
    have := (putAt_perm l.row (placeP l d) c).subset hx
    rcases List.mem_cons.1 this with rfl | hx
    · exact hw
    · exact h.nums x hx)
  have HS6 : Hid (∀ (W w6 : World) (v' : Value), Below w1.heap.size w1 W → Touch (fun k => rv.ownBlock = some k) W w6 → (w6.cell? ⟨w.heap.size, 0, none⟩ = some (.int .i64 c.who) ∧ w6.cell? ⟨w.heap.size, 1, none⟩ = some (.bool c.mine)) ∧ ((w6.setCell ⟨b, 2, none⟩ v').cell? ⟨w.heap.size, 0, none⟩ = some (.int .i64 c.who) ∧ (w6.setCell ⟨b, 2, none⟩ v').cell? ⟨w.heap.size, 1, none⟩ = some (.bool c.mine)) ∧ w6.cell? ⟨b, 2, none⟩ = some rv ∧ w6.frozen? ⟨b, 2, none⟩ = false) := Lib.hid (fun W w6 v' hW ht => by
    have e1 := (hW.block _ (heap_lt hx1)).trans hx1
    have e2 := (ht.block w.heap.size (heap_lt e1) (fun e => by have := h.row.lt _ e; omega)).trans e1
    have hne : w.heap.size ≠ b := fun e => by have := heap_lt h.head; omega
    have e3 := (Below.heap_setCell w6 ⟨b, 2, none⟩ v' w.heap.size hne).trans e2
    have hln := h1.below hW
    have e4 := (ht.block b (heap_lt hln.head) hln.off.2.1).trans hln.head
    exact ⟨⟨cell_of e2 0, cell_of e2 1⟩, ⟨cell_of e3 0, cell_of e3 1⟩, cell_of e4 2, free0 e4 2⟩)
  have HH := Lib.hid h
  obtain ⟨A, cap, rfl, hA1, hA2, _⟩ := id h.row.form
  have hlI : (l.row.length : Int) ≤ 100000 := by omega
  have HE : Hid (l.row.isEmpty = decide (l.row.length = 0)) := Lib.hid (by cases l.row <;> simp)
  obtain ⟨n, hn⟩ : ∃ n, l.row.length = n := ⟨_, rfl⟩
  rw [hn] at HE HIN HS6 hlI HFIN HC HH HGI
  rw [hn]
  obtain ⟨m, hm⟩ : ∃ m, l.mine = m := ⟨_, rfl⟩
  obtain ⟨cm, hcm⟩ : ∃ cm, c.mine = cm := ⟨_, rfl⟩
  obtain ⟨d, hd⟩ : ∃ d, decide (c.who ∈ l.held) = d := ⟨_, rfl⟩
  rw [hd] at HO ⊢
  rw [hm] at HC ⊢
  rw [hcm] at HC HLE HGI HIN HS6 ⊢
  rw [hcm] at HW1
  have HCM := Lib.hid hcm
  have HMM := Lib.hid hm
  have HX := Lib.hid (And.intro hd hn)
  clear h hb1 hx1 hw1 h1 hw hl hr hA1 hA2 hm hcm hd hn c0 c0'
  go_enter Tryz.func76, Tryz.ntmps76
  go_wp2_with fail
  rw [← HW1.out]
  refine (HO.out).mono ?_
  rintro e w2 ⟨rfl, hb2⟩
  have HB2 := Lib.hid hb2
  obtain ⟨c0, c1, k1, k2⟩ := HC.out w2 hb2
  clear hb2
  cases d with
  | true =>
    cases m with
    | true =>
      go_wp2_with fail
      refine bodyPost_ret (v := .bool true) (by simp [results, Tryz.results76, go_sem]) rfl ⟨_, rfl, HH.out.below (HB1.out.trans (HB2.out.mono HB1.out.size)), .of_below (HB1.out.trans (HB2.out.mono HB1.out.size)), .inl rfl⟩
    | false =>
      cases cm with
      | false =>
        go_wp2_with fail
        refine bodyPost_ret (v := .bool true) (by simp [results, Tryz.results76, go_sem]) rfl ⟨_, rfl, HH.out.below (HB1.out.trans (HB2.out.mono HB1.out.size)), .of_below (HB1.out.trans (HB2.out.mono HB1.out.size)), .inl rfl⟩
      | true =>
        go_wp2_with fail
        refine (HLE.out _ HB2.out).mono ?_
        rintro e w3 ⟨rfl, hb3⟩
        have HB3 := Lib.hid (HB2.out.trans (hb3.mono HB2.out.size))
        obtain ⟨q0, q1, r1, r2⟩ := HC.out _ HB3.out
        obtain ⟨lv, hlv⟩ : ∃ lv, letsP l c = lv := ⟨_, rfl⟩
        rw [hlv]
        clear hb3 c0 c1 k1 k2
        cases lv with
        | false =>
          have HLV : Hid (takeQ l c true false true = ({ l with row := putAt l.row (placeP l true) c }, false)) := Lib.hid (by unfold takeQ; rw [hlv]; rfl)
          clear hlv
          go_wp2_with fail
          refine wp_region_held_drew (S := fun W => W.cell? ⟨w.heap.size, 0, none⟩ = some (.int .i64 c.who) ∧ W.cell? ⟨w.heap.size, 1, none⟩ = some (.bool true)) (by kernel_rfl) ⟨q0, q1⟩ (fun hHeld => ?_)
          refine wpAnyH_take (i := 0) (oi := { dst := some 41, op := Op.move (Operand.tmp 0), type := 71, pos := "lane.go:31", after := #[], guard := none }) (v := ?vv1) rfl (by kernel_rfl) (by kernel_rfl) (by kernel_rfl) (fun _ _ _ h => h) ?hy1 (by assumption) ?rest1
          case hy1 => (refine Or.inl ⟨by rfl, ?_⟩; intro W hSw; (try dsimp only at hSw); go_simp; (try with_reducible rfl))
          try simp only [Act.put, List.setIfInBounds_toArray, List.set_cons_zero, List.set_cons_succ]
          refine wpAnyH_take (i := 1) (oi := { dst := some 42, op := Op.move (Operand.tmp 0), type := 71, pos := "lane.go:31", after := #[], guard := none }) (v := ?vv2) rfl (by kernel_rfl) (by kernel_rfl) (by kernel_rfl) (fun _ _ _ h => h) ?hy2 (by assumption) ?rest2
          case hy2 => (refine Or.inl ⟨by rfl, ?_⟩; intro W hSw; (try dsimp only at hSw); go_simp; (try with_reducible rfl))
          try simp only [Act.put, List.setIfInBounds_toArray, List.set_cons_zero, List.set_cons_succ]
          refine wpAnyH_take (i := 2) (oi := { dst := some 43, op := Op.nilCheck (Operand.tmp 42), type := 0, pos := "lane.go:31", after := #[{ on := 1, ground := Ground.data }], guard := none }) (v := ?vv3) rfl (by kernel_rfl) (by kernel_rfl) (by kernel_rfl) (fun _ _ _ h => h) ?hy3 (by assumption) ?rest3
          case hy3 => (refine Or.inl ⟨by rfl, ?_⟩; intro W hSw; (try dsimp only at hSw); go_simp; (try with_reducible rfl))
          try simp only [Act.put, List.setIfInBounds_toArray, List.set_cons_zero, List.set_cons_succ]
          refine wpAnyH_take (i := 3) (oi := { dst := some 44, op := Op.fieldAddr 84 (Operand.tmp 43) 2, type := 0, pos := "lane.go:31", after := #[{ on := 2, ground := Ground.data }], guard := none }) (v := ?vv4) rfl (by kernel_rfl) (by kernel_rfl) (by kernel_rfl) (fun _ _ _ h => h) ?hy4 (by assumption) ?rest4
          case hy4 => (refine Or.inl ⟨by rfl, ?_⟩; intro W hSw; (try dsimp only at hSw); go_simp; (try with_reducible rfl))
          try simp only [Act.put, List.setIfInBounds_toArray, List.set_cons_zero, List.set_cons_succ]
          refine wpAnyH_take (i := 5) (oi := { dst := some 46, op := Op.move (Operand.tmp 0), type := 71, pos := "lane.go:31", after := #[], guard := none }) (v := ?vv5) rfl (by kernel_rfl) (by kernel_rfl) (by kernel_rfl) (fun _ _ _ h => h) ?hy5 (by assumption) ?rest5
          case hy5 => (refine Or.inl ⟨by rfl, ?_⟩; intro W hSw; (try dsimp only at hSw); go_simp; (try with_reducible rfl))
          try simp only [Act.put, List.setIfInBounds_toArray, List.set_cons_zero, List.set_cons_succ]
          refine wpAnyH_take (i := 6) (oi := { dst := some 47, op := Op.move (Operand.tmp 5), type := 4, pos := "lane.go:31", after := #[], guard := none }) (v := ?vv6) rfl (by kernel_rfl) (by kernel_rfl) (by kernel_rfl) (fun _ _ _ h => h) ?hy6 (by assumption) ?rest6
          case hy6 => (refine Or.inl ⟨by rfl, ?_⟩; intro W hSw; (try dsimp only at hSw); go_simp; (try with_reducible rfl))
          try simp only [Act.put, List.setIfInBounds_toArray, List.set_cons_zero, List.set_cons_succ]
          refine wpAnyH_take (i := 8) (oi := { dst := some 49, op := Op.load 106 (Operand.tmp 3), type := 106, pos := "lane.go:31", after := #[], guard := none }) (v := ?vv7) rfl (by kernel_rfl) (by kernel_rfl) (by kernel_rfl) (fun _ _ _ h => h) ?hy7 (by assumption) ?rest7
          case hy7 => (refine Or.inl ⟨by rfl, ?_⟩; intro W hSw; (try dsimp only at hSw); go_simp; (try with_reducible rfl))
          try simp only [Act.put, List.setIfInBounds_toArray, List.set_cons_zero, List.set_cons_succ]
          clear q0 q1 r1 r2
          obtain ⟨wD, hwD⟩ : ∃ wD, wD = w3.drew := ⟨_, rfl⟩
          rw [← hwD] at hHeld ⊢
          have HBX : Hid (Below w1.heap.size w1 wD) := Lib.hid (by rw [hwD]; exact below_drew HB3.out)
          clear hwD
          have k4 := (HC.out _ HBX.out).2.2.2
          refine wpAnyH_ready (rs := [4, 7, 9]) (by kernel_rfl) (by simp) ?_
          refine AllReadyH.cons (o := { dst := some 45, op := Op.load 82 (Operand.tmp 44), type := 82, pos := "lane.go:31", after := #[{ on := 3, ground := Ground.data }], guard := none }) rfl (fun K hK => ?step8) ?more8
          ((go_simp; go_wp2_with fail))
          refine hK.out _ _ ?hS8 (fun hHeld => ?rr8)
          case hS8 => (exact ⟨(HC.out _ HBX.out).1, (HC.out _ HBX.out).2.1⟩)
          clear hK K
          try simp only [Act.put, List.setIfInBounds_toArray, List.set_cons_zero, List.set_cons_succ]
          · clear k4
            refine wpAnyH_ready (rs := [7, 9]) (by kernel_rfl) (by simp) ?_
            refine AllReadyH.cons (o := { dst := some 48, op := Op.call { callee := Callee.value (Operand.func 106), args := #[Operand.tmp 46, Operand.tmp 47], argTypes := #[71, 4] }, type := 3, pos := "lane.go:31", after := #[{ on := 5, ground := Ground.data }, { on := 6, ground := Ground.data }], guard := none }) rfl (fun K hK => ?step9) ?more9
            ((go_simp; go_at_call 106; refine (HPL.out true _ HBX.out).mono ?_; rintro e w4 ⟨rfl, hb4⟩; go_wp2_with fail))
            refine hK.out _ _ ?hS9 (fun hHeld => ?rr9)
            case hS9 => (exact ⟨(HC.out _ (HBX.out.trans (hb4.mono HBX.out.size))).1, (HC.out _ (HBX.out.trans (hb4.mono HBX.out.size))).2.1⟩)
            clear hK K
            try simp only [Act.put, List.setIfInBounds_toArray, List.set_cons_zero, List.set_cons_succ]
            · have HBX := Lib.hid (HBX.out.trans (hb4.mono HBX.out.size))
              clear hb4
              refine wpAnyH_ready (rs := [9]) (by kernel_rfl) (by simp) ?_
              refine AllReadyH.cons (o := { dst := some 50, op := Op.buildSlice 82 1 #[(0, Operand.tmp 49)], type := 82, pos := "lane.go:31", after := #[{ on := 8, ground := Ground.data }], guard := none }) rfl (fun K hK => ?step10) ?more10
              case more10 => exact AllReadyH.nil
              ((go_simp; go_wp2_with fail))
              refine hK.out _ _ ?hS10 (fun hHeld => ?rr10)
              case hS10 => (exact ⟨(HC.out _ (HBX.out.trans ((below_new (w := w4) (.cells #[.int .i64 c.who, .bool true] 106)).mono HBX.out.size))).1, (HC.out _ (HBX.out.trans ((below_new (w := w4) (.cells #[.int .i64 c.who, .bool true] 106)).mono HBX.out.size))).2.1⟩)
              clear hK K
              try simp only [Act.put, List.setIfInBounds_toArray, List.set_cons_zero, List.set_cons_succ]
              have HBB := Lib.hid (And.intro HBX.out.size (alloc_at w4 (.cells #[.int .i64 c.who, .bool true] 106)))
              have HBX := Lib.hid (HBX.out.trans ((below_new (w := w4) (.cells #[.int .i64 c.who, .bool true] 106)).mono HBX.out.size))
              refine wpAnyH_ready (rs := [10]) (by kernel_rfl) (by simp) ?_
              refine AllReadyH.cons (o := { dst := some 51, op := Op.call { callee := Callee.value (Operand.func 105), args := #[Operand.tmp 45, Operand.tmp 48, Operand.tmp 50], argTypes := #[82, 3, 82] }, type := 82, pos := "lane.go:31", after := #[{ on := 4, ground := Ground.data }, { on := 7, ground := Ground.data }, { on := 9, ground := Ground.data }, { on := 7, ground := Ground.chain }], guard := none }) rfl (fun K hK => ?step11) ?more11
              case more11 => exact AllReadyH.nil
              ((go_simp; go_at_call 105; refine (HIN.out true _ _ HBX.out HBB.out.1 HBB.out.2).mono ?_; rintro e w6 ⟨A6, n6, c6, rfl, hr6, ho6, ht6⟩; go_wp2_with fail))
              refine hK.out _ _ ?hS11 (fun hHeld => ?rr11)
              case hS11 => (exact (HS6.out _ w6 undef HBX.out ht6).1)
              clear hK K
              try simp only [Act.put, List.setIfInBounds_toArray, List.set_cons_zero, List.set_cons_succ]
              have HF6 := Lib.hid (HFIN.out true _ w6 _ HBX.out hr6 ho6 ht6)
              have HS7 := Lib.hid (HS6.out _ w6 (.slice A6 n6 c6) HBX.out ht6).2.1
              have z1 := (HS6.out _ w6 undef HBX.out ht6).2.2.1
              have z2 := (HS6.out _ w6 undef HBX.out ht6).2.2.2
              clear hr6 ho6 ht6
              refine wpAnyH_take (i := 11) (oi := { dst := some 52, op := Op.nilCheck (Operand.tmp 41), type := 0, pos := "lane.go:31", after := #[{ on := 0, ground := Ground.data }, { on := 0, ground := Ground.phase }, { on := 1, ground := Ground.phase }, { on := 2, ground := Ground.phase }, { on := 3, ground := Ground.phase }, { on := 4, ground := Ground.phase }, { on := 5, ground := Ground.phase }, { on := 6, ground := Ground.phase }, { on := 7, ground := Ground.phase }, { on := 8, ground := Ground.phase }, { on := 9, ground := Ground.phase }, { on := 10, ground := Ground.phase }], guard := none }) (v := ?vv12) rfl (by kernel_rfl) (by kernel_rfl) (by kernel_rfl) (fun _ _ _ h => h) ?hy12 (by assumption) ?rest12
              case hy12 => (refine Or.inl ⟨by rfl, ?_⟩; intro W hSw; (try dsimp only at hSw); go_simp; (try with_reducible rfl))
              try simp only [Act.put, List.setIfInBounds_toArray, List.set_cons_zero, List.set_cons_succ]
              refine wpAnyH_take (i := 12) (oi := { dst := some 53, op := Op.fieldAddr 84 (Operand.tmp 52) 2, type := 0, pos := "lane.go:31", after := #[{ on := 11, ground := Ground.data }, { on := 0, ground := Ground.phase }, { on := 1, ground := Ground.phase }, { on := 2, ground := Ground.phase }, { on := 3, ground := Ground.phase }, { on := 4, ground := Ground.phase }, { on := 5, ground := Ground.phase }, { on := 6, ground := Ground.phase }, { on := 7, ground := Ground.phase }, { on := 8, ground := Ground.phase }, { on := 9, ground := Ground.phase }, { on := 10, ground := Ground.phase }], guard := none }) (v := ?vv13) rfl (by kernel_rfl) (by kernel_rfl) (by kernel_rfl) (fun _ _ _ h => h) ?hy13 (by assumption) ?rest13
              case hy13 => (refine Or.inl ⟨by rfl, ?_⟩; intro W hSw; (try dsimp only at hSw); go_simp; (try with_reducible rfl))
              try simp only [Act.put, List.setIfInBounds_toArray, List.set_cons_zero, List.set_cons_succ]
              refine wpAnyH_ready (rs := [13]) (by kernel_rfl) (by simp) ?_
              refine AllReadyH.cons (o := { dst := none, op := Op.store 82 (Operand.tmp 53) (Operand.tmp 51), type := 0, pos := "lane.go:31", after := #[{ on := 12, ground := Ground.data }, { on := 10, ground := Ground.data }, { on := 10, ground := Ground.chain }, { on := 0, ground := Ground.phase }, { on := 1, ground := Ground.phase }, { on := 2, ground := Ground.phase }, { on := 3, ground := Ground.phase }, { on := 4, ground := Ground.phase }, { on := 5, ground := Ground.phase }, { on := 6, ground := Ground.phase }, { on := 7, ground := Ground.phase }, { on := 8, ground := Ground.phase }, { on := 9, ground := Ground.phase }, { on := 10, ground := Ground.phase }], guard := none }) rfl (fun K hK => ?step14) ?more14
              case more14 => exact AllReadyH.nil
              ((go_simp; go_wp2_with fail))
              refine hK.out _ _ ?hS14 (fun hHeld => ?rr14)
              case hS14 => (exact HS7.out)
              clear hK K
              try simp only [Act.put, List.setIfInBounds_toArray, List.set_cons_zero, List.set_cons_succ]
              refine wpAnyH_done (by kernel_rfl) ?_ _
              clear hHeld z1 z2
              go_wp2_with fail
              refine bodyPost_ret (v := .bool false) (by simp [results, Tryz.results76, go_sem]) rfl ⟨_, by rw [HLV.out], by rw [HLV.out]; exact HF6.out.1, HF6.out.2.1, HF6.out.2.2⟩
            · skip
              refine AllReadyH.cons (o := { dst := some 50, op := Op.buildSlice 82 1 #[(0, Operand.tmp 49)], type := 82, pos := "lane.go:31", after := #[{ on := 8, ground := Ground.data }], guard := none }) rfl (fun K hK => ?step15) ?more15
              case more15 => exact AllReadyH.nil
              ((go_simp; go_wp2_with fail))
              refine hK.out _ _ ?hS15 (fun hHeld => ?rr15)
              case hS15 => (exact ⟨(HC.out _ (HBX.out.trans ((below_new (w := wD) (.cells #[.int .i64 c.who, .bool true] 106)).mono HBX.out.size))).1, (HC.out _ (HBX.out.trans ((below_new (w := wD) (.cells #[.int .i64 c.who, .bool true] 106)).mono HBX.out.size))).2.1⟩)
              clear hK K
              try simp only [Act.put, List.setIfInBounds_toArray, List.set_cons_zero, List.set_cons_succ]
              have HBB := Lib.hid (And.intro HBX.out.size (alloc_at wD (.cells #[.int .i64 c.who, .bool true] 106)))
              have HBX := Lib.hid (HBX.out.trans ((below_new (w := wD) (.cells #[.int .i64 c.who, .bool true] 106)).mono HBX.out.size))
              refine wpAnyH_ready (rs := [7]) (by kernel_rfl) (by simp) ?_
              refine AllReadyH.cons (o := { dst := some 48, op := Op.call { callee := Callee.value (Operand.func 106), args := #[Operand.tmp 46, Operand.tmp 47], argTypes := #[71, 4] }, type := 3, pos := "lane.go:31", after := #[{ on := 5, ground := Ground.data }, { on := 6, ground := Ground.data }], guard := none }) rfl (fun K hK => ?step16) ?more16
              case more16 => exact AllReadyH.nil
              ((go_simp; go_at_call 106; refine (HPL.out true _ HBX.out).mono ?_; rintro e w4 ⟨rfl, hb4⟩; go_wp2_with fail))
              refine hK.out _ _ ?hS16 (fun hHeld => ?rr16)
              case hS16 => (exact ⟨(HC.out _ (HBX.out.trans (hb4.mono HBX.out.size))).1, (HC.out _ (HBX.out.trans (hb4.mono HBX.out.size))).2.1⟩)
              clear hK K
              try simp only [Act.put, List.setIfInBounds_toArray, List.set_cons_zero, List.set_cons_succ]
              have HBB := Lib.hid (And.intro HBB.out.1 ((hb4.block _ (heap_lt HBB.out.2)).trans HBB.out.2))
              have HBX := Lib.hid (HBX.out.trans (hb4.mono HBX.out.size))
              clear hb4
              refine wpAnyH_ready (rs := [10]) (by kernel_rfl) (by simp) ?_
              refine AllReadyH.cons (o := { dst := some 51, op := Op.call { callee := Callee.value (Operand.func 105), args := #[Operand.tmp 45, Operand.tmp 48, Operand.tmp 50], argTypes := #[82, 3, 82] }, type := 82, pos := "lane.go:31", after := #[{ on := 4, ground := Ground.data }, { on := 7, ground := Ground.data }, { on := 9, ground := Ground.data }, { on := 7, ground := Ground.chain }], guard := none }) rfl (fun K hK => ?step17) ?more17
              case more17 => exact AllReadyH.nil
              ((go_simp; go_at_call 105; refine (HIN.out true _ _ HBX.out HBB.out.1 HBB.out.2).mono ?_; rintro e w6 ⟨A6, n6, c6, rfl, hr6, ho6, ht6⟩; go_wp2_with fail))
              refine hK.out _ _ ?hS17 (fun hHeld => ?rr17)
              case hS17 => (exact (HS6.out _ w6 undef HBX.out ht6).1)
              clear hK K
              try simp only [Act.put, List.setIfInBounds_toArray, List.set_cons_zero, List.set_cons_succ]
              have HF6 := Lib.hid (HFIN.out true _ w6 _ HBX.out hr6 ho6 ht6)
              have HS7 := Lib.hid (HS6.out _ w6 (.slice A6 n6 c6) HBX.out ht6).2.1
              have z1 := (HS6.out _ w6 undef HBX.out ht6).2.2.1
              have z2 := (HS6.out _ w6 undef HBX.out ht6).2.2.2
              clear hr6 ho6 ht6
              refine wpAnyH_take (i := 11) (oi := { dst := some 52, op := Op.nilCheck (Operand.tmp 41), type := 0, pos := "lane.go:31", after := #[{ on := 0, ground := Ground.data }, { on := 0, ground := Ground.phase }, { on := 1, ground := Ground.phase }, { on := 2, ground := Ground.phase }, { on := 3, ground := Ground.phase }, { on := 4, ground := Ground.phase }, { on := 5, ground := Ground.phase }, { on := 6, ground := Ground.phase }, { on := 7, ground := Ground.phase }, { on := 8, ground := Ground.phase }, { on := 9, ground := Ground.phase }, { on := 10, ground := Ground.phase }], guard := none }) (v := ?vv18) rfl (by kernel_rfl) (by kernel_rfl) (by kernel_rfl) (fun _ _ _ h => h) ?hy18 (by assumption) ?rest18
              case hy18 => (refine Or.inl ⟨by rfl, ?_⟩; intro W hSw; (try dsimp only at hSw); go_simp; (try with_reducible rfl))
              try simp only [Act.put, List.setIfInBounds_toArray, List.set_cons_zero, List.set_cons_succ]
              refine wpAnyH_take (i := 12) (oi := { dst := some 53, op := Op.fieldAddr 84 (Operand.tmp 52) 2, type := 0, pos := "lane.go:31", after := #[{ on := 11, ground := Ground.data }, { on := 0, ground := Ground.phase }, { on := 1, ground := Ground.phase }, { on := 2, ground := Ground.phase }, { on := 3, ground := Ground.phase }, { on := 4, ground := Ground.phase }, { on := 5, ground := Ground.phase }, { on := 6, ground := Ground.phase }, { on := 7, ground := Ground.phase }, { on := 8, ground := Ground.phase }, { on := 9, ground := Ground.phase }, { on := 10, ground := Ground.phase }], guard := none }) (v := ?vv19) rfl (by kernel_rfl) (by kernel_rfl) (by kernel_rfl) (fun _ _ _ h => h) ?hy19 (by assumption) ?rest19
              case hy19 => (refine Or.inl ⟨by rfl, ?_⟩; intro W hSw; (try dsimp only at hSw); go_simp; (try with_reducible rfl))
              try simp only [Act.put, List.setIfInBounds_toArray, List.set_cons_zero, List.set_cons_succ]
              refine wpAnyH_ready (rs := [13]) (by kernel_rfl) (by simp) ?_
              refine AllReadyH.cons (o := { dst := none, op := Op.store 82 (Operand.tmp 53) (Operand.tmp 51), type := 0, pos := "lane.go:31", after := #[{ on := 12, ground := Ground.data }, { on := 10, ground := Ground.data }, { on := 10, ground := Ground.chain }, { on := 0, ground := Ground.phase }, { on := 1, ground := Ground.phase }, { on := 2, ground := Ground.phase }, { on := 3, ground := Ground.phase }, { on := 4, ground := Ground.phase }, { on := 5, ground := Ground.phase }, { on := 6, ground := Ground.phase }, { on := 7, ground := Ground.phase }, { on := 8, ground := Ground.phase }, { on := 9, ground := Ground.phase }, { on := 10, ground := Ground.phase }], guard := none }) rfl (fun K hK => ?step20) ?more20
              case more20 => exact AllReadyH.nil
              ((go_simp; go_wp2_with fail))
              refine hK.out _ _ ?hS20 (fun hHeld => ?rr20)
              case hS20 => (exact HS7.out)
              clear hK K
              try simp only [Act.put, List.setIfInBounds_toArray, List.set_cons_zero, List.set_cons_succ]
              refine wpAnyH_done (by kernel_rfl) ?_ _
              clear hHeld z1 z2
              go_wp2_with fail
              refine bodyPost_ret (v := .bool false) (by simp [results, Tryz.results76, go_sem]) rfl ⟨_, by rw [HLV.out], by rw [HLV.out]; exact HF6.out.1, HF6.out.2.1, HF6.out.2.2⟩
          · skip
            refine AllReadyH.cons (o := { dst := some 48, op := Op.call { callee := Callee.value (Operand.func 106), args := #[Operand.tmp 46, Operand.tmp 47], argTypes := #[71, 4] }, type := 3, pos := "lane.go:31", after := #[{ on := 5, ground := Ground.data }, { on := 6, ground := Ground.data }], guard := none }) rfl (fun K hK => ?step21) ?more21
            ((go_simp; go_at_call 106; refine (HPL.out true _ HBX.out).mono ?_; rintro e w4 ⟨rfl, hb4⟩; go_wp2_with fail))
            refine hK.out _ _ ?hS21 (fun hHeld => ?rr21)
            case hS21 => (exact ⟨(HC.out _ (HBX.out.trans (hb4.mono HBX.out.size))).1, (HC.out _ (HBX.out.trans (hb4.mono HBX.out.size))).2.1⟩)
            clear hK K
            try simp only [Act.put, List.setIfInBounds_toArray, List.set_cons_zero, List.set_cons_succ]
            · have HBX := Lib.hid (HBX.out.trans (hb4.mono HBX.out.size))
              clear hb4
              clear k4
              have k4 := (HC.out _ HBX.out).2.2.2
              refine wpAnyH_ready (rs := [4, 9]) (by kernel_rfl) (by simp) ?_
              refine AllReadyH.cons (o := { dst := some 45, op := Op.load 82 (Operand.tmp 44), type := 82, pos := "lane.go:31", after := #[{ on := 3, ground := Ground.data }], guard := none }) rfl (fun K hK => ?step22) ?more22
              ((go_simp; go_wp2_with fail))
              refine hK.out _ _ ?hS22 (fun hHeld => ?rr22)
              case hS22 => (exact ⟨(HC.out _ HBX.out).1, (HC.out _ HBX.out).2.1⟩)
              clear hK K
              try simp only [Act.put, List.setIfInBounds_toArray, List.set_cons_zero, List.set_cons_succ]
              · clear k4
                refine wpAnyH_ready (rs := [9]) (by kernel_rfl) (by simp) ?_
                refine AllReadyH.cons (o := { dst := some 50, op := Op.buildSlice 82 1 #[(0, Operand.tmp 49)], type := 82, pos := "lane.go:31", after := #[{ on := 8, ground := Ground.data }], guard := none }) rfl (fun K hK => ?step23) ?more23
                case more23 => exact AllReadyH.nil
                ((go_simp; go_wp2_with fail))
                refine hK.out _ _ ?hS23 (fun hHeld => ?rr23)
                case hS23 => (exact ⟨(HC.out _ (HBX.out.trans ((below_new (w := w4) (.cells #[.int .i64 c.who, .bool true] 106)).mono HBX.out.size))).1, (HC.out _ (HBX.out.trans ((below_new (w := w4) (.cells #[.int .i64 c.who, .bool true] 106)).mono HBX.out.size))).2.1⟩)
                clear hK K
                try simp only [Act.put, List.setIfInBounds_toArray, List.set_cons_zero, List.set_cons_succ]
                have HBB := Lib.hid (And.intro HBX.out.size (alloc_at w4 (.cells #[.int .i64 c.who, .bool true] 106)))
                have HBX := Lib.hid (HBX.out.trans ((below_new (w := w4) (.cells #[.int .i64 c.who, .bool true] 106)).mono HBX.out.size))
                refine wpAnyH_ready (rs := [10]) (by kernel_rfl) (by simp) ?_
                refine AllReadyH.cons (o := { dst := some 51, op := Op.call { callee := Callee.value (Operand.func 105), args := #[Operand.tmp 45, Operand.tmp 48, Operand.tmp 50], argTypes := #[82, 3, 82] }, type := 82, pos := "lane.go:31", after := #[{ on := 4, ground := Ground.data }, { on := 7, ground := Ground.data }, { on := 9, ground := Ground.data }, { on := 7, ground := Ground.chain }], guard := none }) rfl (fun K hK => ?step24) ?more24
                case more24 => exact AllReadyH.nil
                ((go_simp; go_at_call 105; refine (HIN.out true _ _ HBX.out HBB.out.1 HBB.out.2).mono ?_; rintro e w6 ⟨A6, n6, c6, rfl, hr6, ho6, ht6⟩; go_wp2_with fail))
                refine hK.out _ _ ?hS24 (fun hHeld => ?rr24)
                case hS24 => (exact (HS6.out _ w6 undef HBX.out ht6).1)
                clear hK K
                try simp only [Act.put, List.setIfInBounds_toArray, List.set_cons_zero, List.set_cons_succ]
                have HF6 := Lib.hid (HFIN.out true _ w6 _ HBX.out hr6 ho6 ht6)
                have HS7 := Lib.hid (HS6.out _ w6 (.slice A6 n6 c6) HBX.out ht6).2.1
                have z1 := (HS6.out _ w6 undef HBX.out ht6).2.2.1
                have z2 := (HS6.out _ w6 undef HBX.out ht6).2.2.2
                clear hr6 ho6 ht6
                refine wpAnyH_take (i := 11) (oi := { dst := some 52, op := Op.nilCheck (Operand.tmp 41), type := 0, pos := "lane.go:31", after := #[{ on := 0, ground := Ground.data }, { on := 0, ground := Ground.phase }, { on := 1, ground := Ground.phase }, { on := 2, ground := Ground.phase }, { on := 3, ground := Ground.phase }, { on := 4, ground := Ground.phase }, { on := 5, ground := Ground.phase }, { on := 6, ground := Ground.phase }, { on := 7, ground := Ground.phase }, { on := 8, ground := Ground.phase }, { on := 9, ground := Ground.phase }, { on := 10, ground := Ground.phase }], guard := none }) (v := ?vv25) rfl (by kernel_rfl) (by kernel_rfl) (by kernel_rfl) (fun _ _ _ h => h) ?hy25 (by assumption) ?rest25
                case hy25 => (refine Or.inl ⟨by rfl, ?_⟩; intro W hSw; (try dsimp only at hSw); go_simp; (try with_reducible rfl))
                try simp only [Act.put, List.setIfInBounds_toArray, List.set_cons_zero, List.set_cons_succ]
                refine wpAnyH_take (i := 12) (oi := { dst := some 53, op := Op.fieldAddr 84 (Operand.tmp 52) 2, type := 0, pos := "lane.go:31", after := #[{ on := 11, ground := Ground.data }, { on := 0, ground := Ground.phase }, { on := 1, ground := Ground.phase }, { on := 2, ground := Ground.phase }, { on := 3, ground := Ground.phase }, { on := 4, ground := Ground.phase }, { on := 5, ground := Ground.phase }, { on := 6, ground := Ground.phase }, { on := 7, ground := Ground.phase }, { on := 8, ground := Ground.phase }, { on := 9, ground := Ground.phase }, { on := 10, ground := Ground.phase }], guard := none }) (v := ?vv26) rfl (by kernel_rfl) (by kernel_rfl) (by kernel_rfl) (fun _ _ _ h => h) ?hy26 (by assumption) ?rest26
                case hy26 => (refine Or.inl ⟨by rfl, ?_⟩; intro W hSw; (try dsimp only at hSw); go_simp; (try with_reducible rfl))
                try simp only [Act.put, List.setIfInBounds_toArray, List.set_cons_zero, List.set_cons_succ]
                refine wpAnyH_ready (rs := [13]) (by kernel_rfl) (by simp) ?_
                refine AllReadyH.cons (o := { dst := none, op := Op.store 82 (Operand.tmp 53) (Operand.tmp 51), type := 0, pos := "lane.go:31", after := #[{ on := 12, ground := Ground.data }, { on := 10, ground := Ground.data }, { on := 10, ground := Ground.chain }, { on := 0, ground := Ground.phase }, { on := 1, ground := Ground.phase }, { on := 2, ground := Ground.phase }, { on := 3, ground := Ground.phase }, { on := 4, ground := Ground.phase }, { on := 5, ground := Ground.phase }, { on := 6, ground := Ground.phase }, { on := 7, ground := Ground.phase }, { on := 8, ground := Ground.phase }, { on := 9, ground := Ground.phase }, { on := 10, ground := Ground.phase }], guard := none }) rfl (fun K hK => ?step27) ?more27
                case more27 => exact AllReadyH.nil
                ((go_simp; go_wp2_with fail))
                refine hK.out _ _ ?hS27 (fun hHeld => ?rr27)
                case hS27 => (exact HS7.out)
                clear hK K
                try simp only [Act.put, List.setIfInBounds_toArray, List.set_cons_zero, List.set_cons_succ]
                refine wpAnyH_done (by kernel_rfl) ?_ _
                clear hHeld z1 z2
                go_wp2_with fail
                refine bodyPost_ret (v := .bool false) (by simp [results, Tryz.results76, go_sem]) rfl ⟨_, by rw [HLV.out], by rw [HLV.out]; exact HF6.out.1, HF6.out.2.1, HF6.out.2.2⟩
              · skip
                refine AllReadyH.cons (o := { dst := some 50, op := Op.buildSlice 82 1 #[(0, Operand.tmp 49)], type := 82, pos := "lane.go:31", after := #[{ on := 8, ground := Ground.data }], guard := none }) rfl (fun K hK => ?step28) ?more28
                case more28 => exact AllReadyH.nil
                ((go_simp; go_wp2_with fail))
                refine hK.out _ _ ?hS28 (fun hHeld => ?rr28)
                case hS28 => (exact ⟨(HC.out _ (HBX.out.trans ((below_new (w := w4) (.cells #[.int .i64 c.who, .bool true] 106)).mono HBX.out.size))).1, (HC.out _ (HBX.out.trans ((below_new (w := w4) (.cells #[.int .i64 c.who, .bool true] 106)).mono HBX.out.size))).2.1⟩)
                clear hK K
                try simp only [Act.put, List.setIfInBounds_toArray, List.set_cons_zero, List.set_cons_succ]
                have HBB := Lib.hid (And.intro HBX.out.size (alloc_at w4 (.cells #[.int .i64 c.who, .bool true] 106)))
                have HBX := Lib.hid (HBX.out.trans ((below_new (w := w4) (.cells #[.int .i64 c.who, .bool true] 106)).mono HBX.out.size))
                clear k4
                have k4 := (HC.out _ HBX.out).2.2.2
                refine wpAnyH_ready (rs := [4]) (by kernel_rfl) (by simp) ?_
                refine AllReadyH.cons (o := { dst := some 45, op := Op.load 82 (Operand.tmp 44), type := 82, pos := "lane.go:31", after := #[{ on := 3, ground := Ground.data }], guard := none }) rfl (fun K hK => ?step29) ?more29
                case more29 => exact AllReadyH.nil
                ((go_simp; go_wp2_with fail))
                refine hK.out _ _ ?hS29 (fun hHeld => ?rr29)
                case hS29 => (exact ⟨(HC.out _ HBX.out).1, (HC.out _ HBX.out).2.1⟩)
                clear hK K
                try simp only [Act.put, List.setIfInBounds_toArray, List.set_cons_zero, List.set_cons_succ]
                clear k4
                refine wpAnyH_ready (rs := [10]) (by kernel_rfl) (by simp) ?_
                refine AllReadyH.cons (o := { dst := some 51, op := Op.call { callee := Callee.value (Operand.func 105), args := #[Operand.tmp 45, Operand.tmp 48, Operand.tmp 50], argTypes := #[82, 3, 82] }, type := 82, pos := "lane.go:31", after := #[{ on := 4, ground := Ground.data }, { on := 7, ground := Ground.data }, { on := 9, ground := Ground.data }, { on := 7, ground := Ground.chain }], guard := none }) rfl (fun K hK => ?step30) ?more30
                case more30 => exact AllReadyH.nil
                ((go_simp; go_at_call 105; refine (HIN.out true _ _ HBX.out HBB.out.1 HBB.out.2).mono ?_; rintro e w6 ⟨A6, n6, c6, rfl, hr6, ho6, ht6⟩; go_wp2_with fail))
                refine hK.out _ _ ?hS30 (fun hHeld => ?rr30)
                case hS30 => (exact (HS6.out _ w6 undef HBX.out ht6).1)
                clear hK K
                try simp only [Act.put, List.setIfInBounds_toArray, List.set_cons_zero, List.set_cons_succ]
                have HF6 := Lib.hid (HFIN.out true _ w6 _ HBX.out hr6 ho6 ht6)
                have HS7 := Lib.hid (HS6.out _ w6 (.slice A6 n6 c6) HBX.out ht6).2.1
                have z1 := (HS6.out _ w6 undef HBX.out ht6).2.2.1
                have z2 := (HS6.out _ w6 undef HBX.out ht6).2.2.2
                clear hr6 ho6 ht6
                refine wpAnyH_take (i := 11) (oi := { dst := some 52, op := Op.nilCheck (Operand.tmp 41), type := 0, pos := "lane.go:31", after := #[{ on := 0, ground := Ground.data }, { on := 0, ground := Ground.phase }, { on := 1, ground := Ground.phase }, { on := 2, ground := Ground.phase }, { on := 3, ground := Ground.phase }, { on := 4, ground := Ground.phase }, { on := 5, ground := Ground.phase }, { on := 6, ground := Ground.phase }, { on := 7, ground := Ground.phase }, { on := 8, ground := Ground.phase }, { on := 9, ground := Ground.phase }, { on := 10, ground := Ground.phase }], guard := none }) (v := ?vv31) rfl (by kernel_rfl) (by kernel_rfl) (by kernel_rfl) (fun _ _ _ h => h) ?hy31 (by assumption) ?rest31
                case hy31 => (refine Or.inl ⟨by rfl, ?_⟩; intro W hSw; (try dsimp only at hSw); go_simp; (try with_reducible rfl))
                try simp only [Act.put, List.setIfInBounds_toArray, List.set_cons_zero, List.set_cons_succ]
                refine wpAnyH_take (i := 12) (oi := { dst := some 53, op := Op.fieldAddr 84 (Operand.tmp 52) 2, type := 0, pos := "lane.go:31", after := #[{ on := 11, ground := Ground.data }, { on := 0, ground := Ground.phase }, { on := 1, ground := Ground.phase }, { on := 2, ground := Ground.phase }, { on := 3, ground := Ground.phase }, { on := 4, ground := Ground.phase }, { on := 5, ground := Ground.phase }, { on := 6, ground := Ground.phase }, { on := 7, ground := Ground.phase }, { on := 8, ground := Ground.phase }, { on := 9, ground := Ground.phase }, { on := 10, ground := Ground.phase }], guard := none }) (v := ?vv32) rfl (by kernel_rfl) (by kernel_rfl) (by kernel_rfl) (fun _ _ _ h => h) ?hy32 (by assumption) ?rest32
                case hy32 => (refine Or.inl ⟨by rfl, ?_⟩; intro W hSw; (try dsimp only at hSw); go_simp; (try with_reducible rfl))
                try simp only [Act.put, List.setIfInBounds_toArray, List.set_cons_zero, List.set_cons_succ]
                refine wpAnyH_ready (rs := [13]) (by kernel_rfl) (by simp) ?_
                refine AllReadyH.cons (o := { dst := none, op := Op.store 82 (Operand.tmp 53) (Operand.tmp 51), type := 0, pos := "lane.go:31", after := #[{ on := 12, ground := Ground.data }, { on := 10, ground := Ground.data }, { on := 10, ground := Ground.chain }, { on := 0, ground := Ground.phase }, { on := 1, ground := Ground.phase }, { on := 2, ground := Ground.phase }, { on := 3, ground := Ground.phase }, { on := 4, ground := Ground.phase }, { on := 5, ground := Ground.phase }, { on := 6, ground := Ground.phase }, { on := 7, ground := Ground.phase }, { on := 8, ground := Ground.phase }, { on := 9, ground := Ground.phase }, { on := 10, ground := Ground.phase }], guard := none }) rfl (fun K hK => ?step33) ?more33
                case more33 => exact AllReadyH.nil
                ((go_simp; go_wp2_with fail))
                refine hK.out _ _ ?hS33 (fun hHeld => ?rr33)
                case hS33 => (exact HS7.out)
                clear hK K
                try simp only [Act.put, List.setIfInBounds_toArray, List.set_cons_zero, List.set_cons_succ]
                refine wpAnyH_done (by kernel_rfl) ?_ _
                clear hHeld z1 z2
                go_wp2_with fail
                refine bodyPost_ret (v := .bool false) (by simp [results, Tryz.results76, go_sem]) rfl ⟨_, by rw [HLV.out], by rw [HLV.out]; exact HF6.out.1, HF6.out.2.1, HF6.out.2.2⟩
            · skip
              refine AllReadyH.cons (o := { dst := some 50, op := Op.buildSlice 82 1 #[(0, Operand.tmp 49)], type := 82, pos := "lane.go:31", after := #[{ on := 8, ground := Ground.data }], guard := none }) rfl (fun K hK => ?step34) ?more34
              case more34 => exact AllReadyH.nil
              ((go_simp; go_wp2_with fail))
              refine hK.out _ _ ?hS34 (fun hHeld => ?rr34)
              case hS34 => (exact ⟨(HC.out _ (HBX.out.trans ((below_new (w := wD) (.cells #[.int .i64 c.who, .bool true] 106)).mono HBX.out.size))).1, (HC.out _ (HBX.out.trans ((below_new (w := wD) (.cells #[.int .i64 c.who, .bool true] 106)).mono HBX.out.size))).2.1⟩)
              clear hK K
              try simp only [Act.put, List.setIfInBounds_toArray, List.set_cons_zero, List.set_cons_succ]
              have HBB := Lib.hid (And.intro HBX.out.size (alloc_at wD (.cells #[.int .i64 c.who, .bool true] 106)))
              have HBX := Lib.hid (HBX.out.trans ((below_new (w := wD) (.cells #[.int .i64 c.who, .bool true] 106)).mono HBX.out.size))
              clear k4
              have k4 := (HC.out _ HBX.out).2.2.2
              refine wpAnyH_ready (rs := [4, 7]) (by kernel_rfl) (by simp) ?_
              refine AllReadyH.cons (o := { dst := some 45, op := Op.load 82 (Operand.tmp 44), type := 82, pos := "lane.go:31", after := #[{ on := 3, ground := Ground.data }], guard := none }) rfl (fun K hK => ?step35) ?more35
              ((go_simp; go_wp2_with fail))
              refine hK.out _ _ ?hS35 (fun hHeld => ?rr35)
              case hS35 => (exact ⟨(HC.out _ HBX.out).1, (HC.out _ HBX.out).2.1⟩)
              clear hK K
              try simp only [Act.put, List.setIfInBounds_toArray, List.set_cons_zero, List.set_cons_succ]
              · clear k4
                refine wpAnyH_ready (rs := [7]) (by kernel_rfl) (by simp) ?_
                refine AllReadyH.cons (o := { dst := some 48, op := Op.call { callee := Callee.value (Operand.func 106), args := #[Operand.tmp 46, Operand.tmp 47], argTypes := #[71, 4] }, type := 3, pos := "lane.go:31", after := #[{ on := 5, ground := Ground.data }, { on := 6, ground := Ground.data }], guard := none }) rfl (fun K hK => ?step36) ?more36
                case more36 => exact AllReadyH.nil
                ((go_simp; go_at_call 106; refine (HPL.out true _ HBX.out).mono ?_; rintro e w4 ⟨rfl, hb4⟩; go_wp2_with fail))
                refine hK.out _ _ ?hS36 (fun hHeld => ?rr36)
                case hS36 => (exact ⟨(HC.out _ (HBX.out.trans (hb4.mono HBX.out.size))).1, (HC.out _ (HBX.out.trans (hb4.mono HBX.out.size))).2.1⟩)
                clear hK K
                try simp only [Act.put, List.setIfInBounds_toArray, List.set_cons_zero, List.set_cons_succ]
                have HBB := Lib.hid (And.intro HBB.out.1 ((hb4.block _ (heap_lt HBB.out.2)).trans HBB.out.2))
                have HBX := Lib.hid (HBX.out.trans (hb4.mono HBX.out.size))
                clear hb4
                refine wpAnyH_ready (rs := [10]) (by kernel_rfl) (by simp) ?_
                refine AllReadyH.cons (o := { dst := some 51, op := Op.call { callee := Callee.value (Operand.func 105), args := #[Operand.tmp 45, Operand.tmp 48, Operand.tmp 50], argTypes := #[82, 3, 82] }, type := 82, pos := "lane.go:31", after := #[{ on := 4, ground := Ground.data }, { on := 7, ground := Ground.data }, { on := 9, ground := Ground.data }, { on := 7, ground := Ground.chain }], guard := none }) rfl (fun K hK => ?step37) ?more37
                case more37 => exact AllReadyH.nil
                ((go_simp; go_at_call 105; refine (HIN.out true _ _ HBX.out HBB.out.1 HBB.out.2).mono ?_; rintro e w6 ⟨A6, n6, c6, rfl, hr6, ho6, ht6⟩; go_wp2_with fail))
                refine hK.out _ _ ?hS37 (fun hHeld => ?rr37)
                case hS37 => (exact (HS6.out _ w6 undef HBX.out ht6).1)
                clear hK K
                try simp only [Act.put, List.setIfInBounds_toArray, List.set_cons_zero, List.set_cons_succ]
                have HF6 := Lib.hid (HFIN.out true _ w6 _ HBX.out hr6 ho6 ht6)
                have HS7 := Lib.hid (HS6.out _ w6 (.slice A6 n6 c6) HBX.out ht6).2.1
                have z1 := (HS6.out _ w6 undef HBX.out ht6).2.2.1
                have z2 := (HS6.out _ w6 undef HBX.out ht6).2.2.2
                clear hr6 ho6 ht6
                refine wpAnyH_take (i := 11) (oi := { dst := some 52, op := Op.nilCheck (Operand.tmp 41), type := 0, pos := "lane.go:31", after := #[{ on := 0, ground := Ground.data }, { on := 0, ground := Ground.phase }, { on := 1, ground := Ground.phase }, { on := 2, ground := Ground.phase }, { on := 3, ground := Ground.phase }, { on := 4, ground := Ground.phase }, { on := 5, ground := Ground.phase }, { on := 6, ground := Ground.phase }, { on := 7, ground := Ground.phase }, { on := 8, ground := Ground.phase }, { on := 9, ground := Ground.phase }, { on := 10, ground := Ground.phase }], guard := none }) (v := ?vv38) rfl (by kernel_rfl) (by kernel_rfl) (by kernel_rfl) (fun _ _ _ h => h) ?hy38 (by assumption) ?rest38
                case hy38 => (refine Or.inl ⟨by rfl, ?_⟩; intro W hSw; (try dsimp only at hSw); go_simp; (try with_reducible rfl))
                try simp only [Act.put, List.setIfInBounds_toArray, List.set_cons_zero, List.set_cons_succ]
                refine wpAnyH_take (i := 12) (oi := { dst := some 53, op := Op.fieldAddr 84 (Operand.tmp 52) 2, type := 0, pos := "lane.go:31", after := #[{ on := 11, ground := Ground.data }, { on := 0, ground := Ground.phase }, { on := 1, ground := Ground.phase }, { on := 2, ground := Ground.phase }, { on := 3, ground := Ground.phase }, { on := 4, ground := Ground.phase }, { on := 5, ground := Ground.phase }, { on := 6, ground := Ground.phase }, { on := 7, ground := Ground.phase }, { on := 8, ground := Ground.phase }, { on := 9, ground := Ground.phase }, { on := 10, ground := Ground.phase }], guard := none }) (v := ?vv39) rfl (by kernel_rfl) (by kernel_rfl) (by kernel_rfl) (fun _ _ _ h => h) ?hy39 (by assumption) ?rest39
                case hy39 => (refine Or.inl ⟨by rfl, ?_⟩; intro W hSw; (try dsimp only at hSw); go_simp; (try with_reducible rfl))
                try simp only [Act.put, List.setIfInBounds_toArray, List.set_cons_zero, List.set_cons_succ]
                refine wpAnyH_ready (rs := [13]) (by kernel_rfl) (by simp) ?_
                refine AllReadyH.cons (o := { dst := none, op := Op.store 82 (Operand.tmp 53) (Operand.tmp 51), type := 0, pos := "lane.go:31", after := #[{ on := 12, ground := Ground.data }, { on := 10, ground := Ground.data }, { on := 10, ground := Ground.chain }, { on := 0, ground := Ground.phase }, { on := 1, ground := Ground.phase }, { on := 2, ground := Ground.phase }, { on := 3, ground := Ground.phase }, { on := 4, ground := Ground.phase }, { on := 5, ground := Ground.phase }, { on := 6, ground := Ground.phase }, { on := 7, ground := Ground.phase }, { on := 8, ground := Ground.phase }, { on := 9, ground := Ground.phase }, { on := 10, ground := Ground.phase }], guard := none }) rfl (fun K hK => ?step40) ?more40
                case more40 => exact AllReadyH.nil
                ((go_simp; go_wp2_with fail))
                refine hK.out _ _ ?hS40 (fun hHeld => ?rr40)
                case hS40 => (exact HS7.out)
                clear hK K
                try simp only [Act.put, List.setIfInBounds_toArray, List.set_cons_zero, List.set_cons_succ]
                refine wpAnyH_done (by kernel_rfl) ?_ _
                clear hHeld z1 z2
                go_wp2_with fail
                refine bodyPost_ret (v := .bool false) (by simp [results, Tryz.results76, go_sem]) rfl ⟨_, by rw [HLV.out], by rw [HLV.out]; exact HF6.out.1, HF6.out.2.1, HF6.out.2.2⟩
              · skip
                refine AllReadyH.cons (o := { dst := some 48, op := Op.call { callee := Callee.value (Operand.func 106), args := #[Operand.tmp 46, Operand.tmp 47], argTypes := #[71, 4] }, type := 3, pos := "lane.go:31", after := #[{ on := 5, ground := Ground.data }, { on := 6, ground := Ground.data }], guard := none }) rfl (fun K hK => ?step41) ?more41
                case more41 => exact AllReadyH.nil
                ((go_simp; go_at_call 106; refine (HPL.out true _ HBX.out).mono ?_; rintro e w4 ⟨rfl, hb4⟩; go_wp2_with fail))
                refine hK.out _ _ ?hS41 (fun hHeld => ?rr41)
                case hS41 => (exact ⟨(HC.out _ (HBX.out.trans (hb4.mono HBX.out.size))).1, (HC.out _ (HBX.out.trans (hb4.mono HBX.out.size))).2.1⟩)
                clear hK K
                try simp only [Act.put, List.setIfInBounds_toArray, List.set_cons_zero, List.set_cons_succ]
                have HBB := Lib.hid (And.intro HBB.out.1 ((hb4.block _ (heap_lt HBB.out.2)).trans HBB.out.2))
                have HBX := Lib.hid (HBX.out.trans (hb4.mono HBX.out.size))
                clear hb4
                clear k4
                have k4 := (HC.out _ HBX.out).2.2.2
                refine wpAnyH_ready (rs := [4]) (by kernel_rfl) (by simp) ?_
                refine AllReadyH.cons (o := { dst := some 45, op := Op.load 82 (Operand.tmp 44), type := 82, pos := "lane.go:31", after := #[{ on := 3, ground := Ground.data }], guard := none }) rfl (fun K hK => ?step42) ?more42
                case more42 => exact AllReadyH.nil
                ((go_simp; go_wp2_with fail))
                refine hK.out _ _ ?hS42 (fun hHeld => ?rr42)
                case hS42 => (exact ⟨(HC.out _ HBX.out).1, (HC.out _ HBX.out).2.1⟩)
                clear hK K
                try simp only [Act.put, List.setIfInBounds_toArray, List.set_cons_zero, List.set_cons_succ]
                clear k4
                refine wpAnyH_ready (rs := [10]) (by kernel_rfl) (by simp) ?_
                refine AllReadyH.cons (o := { dst := some 51, op := Op.call { callee := Callee.value (Operand.func 105), args := #[Operand.tmp 45, Operand.tmp 48, Operand.tmp 50], argTypes := #[82, 3, 82] }, type := 82, pos := "lane.go:31", after := #[{ on := 4, ground := Ground.data }, { on := 7, ground := Ground.data }, { on := 9, ground := Ground.data }, { on := 7, ground := Ground.chain }], guard := none }) rfl (fun K hK => ?step43) ?more43
                case more43 => exact AllReadyH.nil
                ((go_simp; go_at_call 105; refine (HIN.out true _ _ HBX.out HBB.out.1 HBB.out.2).mono ?_; rintro e w6 ⟨A6, n6, c6, rfl, hr6, ho6, ht6⟩; go_wp2_with fail))
                refine hK.out _ _ ?hS43 (fun hHeld => ?rr43)
                case hS43 => (exact (HS6.out _ w6 undef HBX.out ht6).1)
                clear hK K
                try simp only [Act.put, List.setIfInBounds_toArray, List.set_cons_zero, List.set_cons_succ]
                have HF6 := Lib.hid (HFIN.out true _ w6 _ HBX.out hr6 ho6 ht6)
                have HS7 := Lib.hid (HS6.out _ w6 (.slice A6 n6 c6) HBX.out ht6).2.1
                have z1 := (HS6.out _ w6 undef HBX.out ht6).2.2.1
                have z2 := (HS6.out _ w6 undef HBX.out ht6).2.2.2
                clear hr6 ho6 ht6
                refine wpAnyH_take (i := 11) (oi := { dst := some 52, op := Op.nilCheck (Operand.tmp 41), type := 0, pos := "lane.go:31", after := #[{ on := 0, ground := Ground.data }, { on := 0, ground := Ground.phase }, { on := 1, ground := Ground.phase }, { on := 2, ground := Ground.phase }, { on := 3, ground := Ground.phase }, { on := 4, ground := Ground.phase }, { on := 5, ground := Ground.phase }, { on := 6, ground := Ground.phase }, { on := 7, ground := Ground.phase }, { on := 8, ground := Ground.phase }, { on := 9, ground := Ground.phase }, { on := 10, ground := Ground.phase }], guard := none }) (v := ?vv44) rfl (by kernel_rfl) (by kernel_rfl) (by kernel_rfl) (fun _ _ _ h => h) ?hy44 (by assumption) ?rest44
                case hy44 => (refine Or.inl ⟨by rfl, ?_⟩; intro W hSw; (try dsimp only at hSw); go_simp; (try with_reducible rfl))
                try simp only [Act.put, List.setIfInBounds_toArray, List.set_cons_zero, List.set_cons_succ]
                refine wpAnyH_take (i := 12) (oi := { dst := some 53, op := Op.fieldAddr 84 (Operand.tmp 52) 2, type := 0, pos := "lane.go:31", after := #[{ on := 11, ground := Ground.data }, { on := 0, ground := Ground.phase }, { on := 1, ground := Ground.phase }, { on := 2, ground := Ground.phase }, { on := 3, ground := Ground.phase }, { on := 4, ground := Ground.phase }, { on := 5, ground := Ground.phase }, { on := 6, ground := Ground.phase }, { on := 7, ground := Ground.phase }, { on := 8, ground := Ground.phase }, { on := 9, ground := Ground.phase }, { on := 10, ground := Ground.phase }], guard := none }) (v := ?vv45) rfl (by kernel_rfl) (by kernel_rfl) (by kernel_rfl) (fun _ _ _ h => h) ?hy45 (by assumption) ?rest45
                case hy45 => (refine Or.inl ⟨by rfl, ?_⟩; intro W hSw; (try dsimp only at hSw); go_simp; (try with_reducible rfl))
                try simp only [Act.put, List.setIfInBounds_toArray, List.set_cons_zero, List.set_cons_succ]
                refine wpAnyH_ready (rs := [13]) (by kernel_rfl) (by simp) ?_
                refine AllReadyH.cons (o := { dst := none, op := Op.store 82 (Operand.tmp 53) (Operand.tmp 51), type := 0, pos := "lane.go:31", after := #[{ on := 12, ground := Ground.data }, { on := 10, ground := Ground.data }, { on := 10, ground := Ground.chain }, { on := 0, ground := Ground.phase }, { on := 1, ground := Ground.phase }, { on := 2, ground := Ground.phase }, { on := 3, ground := Ground.phase }, { on := 4, ground := Ground.phase }, { on := 5, ground := Ground.phase }, { on := 6, ground := Ground.phase }, { on := 7, ground := Ground.phase }, { on := 8, ground := Ground.phase }, { on := 9, ground := Ground.phase }, { on := 10, ground := Ground.phase }], guard := none }) rfl (fun K hK => ?step46) ?more46
                case more46 => exact AllReadyH.nil
                ((go_simp; go_wp2_with fail))
                refine hK.out _ _ ?hS46 (fun hHeld => ?rr46)
                case hS46 => (exact HS7.out)
                clear hK K
                try simp only [Act.put, List.setIfInBounds_toArray, List.set_cons_zero, List.set_cons_succ]
                refine wpAnyH_done (by kernel_rfl) ?_ _
                clear hHeld z1 z2
                go_wp2_with fail
                refine bodyPost_ret (v := .bool false) (by simp [results, Tryz.results76, go_sem]) rfl ⟨_, by rw [HLV.out], by rw [HLV.out]; exact HF6.out.1, HF6.out.2.1, HF6.out.2.2⟩
        | true =>
          have HLV : Hid (takeQ l c true false true = (giveP l c, true)) := Lib.hid (by unfold takeQ; rw [hlv]; rfl)
          clear hlv
          go_wp2_with fail
          refine (HGI.out _ HB3.out).mono ?_
          rintro e w4 ⟨rfl, hg4, ht4⟩
          have HG4 := Lib.hid (And.intro hg4 ((Touch.of_below (S := fun k => k = b ∨ k = gh ∨ (Value.slice A n cap).ownBlock = some k) (HB1.out.trans (HB3.out.mono HB1.out.size))).trans ht4 (fun k _ e => e.elim .inl (fun e => .inr (.inl e)))))
          clear hg4 ht4 q0 q1 r1 r2
          go_wp2_with fail
          refine bodyPost_ret (v := .bool true) (by simp [results, Tryz.results76, go_sem]) rfl ⟨_, by rw [HLV.out], by rw [HLV.out]; exact HG4.out.1, HG4.out.2, .inl rfl⟩
  | false =>
    go_wp2_with fail
    refine (HLE.out _ HB2.out).mono ?_
    rintro e w3 ⟨rfl, hb3⟩
    have HB3 := Lib.hid (HB2.out.trans (hb3.mono HB2.out.size))
    obtain ⟨q0, q1, r1, r2⟩ := HC.out _ HB3.out
    obtain ⟨lv, hlv⟩ : ∃ lv, letsP l c = lv := ⟨_, rfl⟩
    rw [hlv]
    clear hb3 c0 c1 k1 k2
    cases lv with
    | false =>
      have HLV : Hid (takeQ l c false m cm = ({ l with row := putAt l.row (placeP l false) c }, false)) := Lib.hid (by unfold takeQ; rw [hlv]; rfl)
      clear hlv
      go_wp2_with fail
      refine wp_region_held_drew (S := fun W => W.cell? ⟨w.heap.size, 0, none⟩ = some (.int .i64 c.who) ∧ W.cell? ⟨w.heap.size, 1, none⟩ = some (.bool cm)) (by kernel_rfl) ⟨q0, q1⟩ (fun hHeld => ?_)
      refine wpAnyH_take (i := 0) (oi := { dst := some 41, op := Op.move (Operand.tmp 0), type := 71, pos := "lane.go:31", after := #[], guard := none }) (v := ?vv47) rfl (by kernel_rfl) (by kernel_rfl) (by kernel_rfl) (fun _ _ _ h => h) ?hy47 (by assumption) ?rest47
      case hy47 => (refine Or.inl ⟨by rfl, ?_⟩; intro W hSw; (try dsimp only at hSw); go_simp; (try with_reducible rfl))
      try simp only [Act.put, List.setIfInBounds_toArray, List.set_cons_zero, List.set_cons_succ]
      refine wpAnyH_take (i := 1) (oi := { dst := some 42, op := Op.move (Operand.tmp 0), type := 71, pos := "lane.go:31", after := #[], guard := none }) (v := ?vv48) rfl (by kernel_rfl) (by kernel_rfl) (by kernel_rfl) (fun _ _ _ h => h) ?hy48 (by assumption) ?rest48
      case hy48 => (refine Or.inl ⟨by rfl, ?_⟩; intro W hSw; (try dsimp only at hSw); go_simp; (try with_reducible rfl))
      try simp only [Act.put, List.setIfInBounds_toArray, List.set_cons_zero, List.set_cons_succ]
      refine wpAnyH_take (i := 2) (oi := { dst := some 43, op := Op.nilCheck (Operand.tmp 42), type := 0, pos := "lane.go:31", after := #[{ on := 1, ground := Ground.data }], guard := none }) (v := ?vv49) rfl (by kernel_rfl) (by kernel_rfl) (by kernel_rfl) (fun _ _ _ h => h) ?hy49 (by assumption) ?rest49
      case hy49 => (refine Or.inl ⟨by rfl, ?_⟩; intro W hSw; (try dsimp only at hSw); go_simp; (try with_reducible rfl))
      try simp only [Act.put, List.setIfInBounds_toArray, List.set_cons_zero, List.set_cons_succ]
      refine wpAnyH_take (i := 3) (oi := { dst := some 44, op := Op.fieldAddr 84 (Operand.tmp 43) 2, type := 0, pos := "lane.go:31", after := #[{ on := 2, ground := Ground.data }], guard := none }) (v := ?vv50) rfl (by kernel_rfl) (by kernel_rfl) (by kernel_rfl) (fun _ _ _ h => h) ?hy50 (by assumption) ?rest50
      case hy50 => (refine Or.inl ⟨by rfl, ?_⟩; intro W hSw; (try dsimp only at hSw); go_simp; (try with_reducible rfl))
      try simp only [Act.put, List.setIfInBounds_toArray, List.set_cons_zero, List.set_cons_succ]
      refine wpAnyH_take (i := 5) (oi := { dst := some 46, op := Op.move (Operand.tmp 0), type := 71, pos := "lane.go:31", after := #[], guard := none }) (v := ?vv51) rfl (by kernel_rfl) (by kernel_rfl) (by kernel_rfl) (fun _ _ _ h => h) ?hy51 (by assumption) ?rest51
      case hy51 => (refine Or.inl ⟨by rfl, ?_⟩; intro W hSw; (try dsimp only at hSw); go_simp; (try with_reducible rfl))
      try simp only [Act.put, List.setIfInBounds_toArray, List.set_cons_zero, List.set_cons_succ]
      refine wpAnyH_take (i := 6) (oi := { dst := some 47, op := Op.move (Operand.tmp 5), type := 4, pos := "lane.go:31", after := #[], guard := none }) (v := ?vv52) rfl (by kernel_rfl) (by kernel_rfl) (by kernel_rfl) (fun _ _ _ h => h) ?hy52 (by assumption) ?rest52
      case hy52 => (refine Or.inl ⟨by rfl, ?_⟩; intro W hSw; (try dsimp only at hSw); go_simp; (try with_reducible rfl))
      try simp only [Act.put, List.setIfInBounds_toArray, List.set_cons_zero, List.set_cons_succ]
      refine wpAnyH_take (i := 8) (oi := { dst := some 49, op := Op.load 106 (Operand.tmp 3), type := 106, pos := "lane.go:31", after := #[], guard := none }) (v := ?vv53) rfl (by kernel_rfl) (by kernel_rfl) (by kernel_rfl) (fun _ _ _ h => h) ?hy53 (by assumption) ?rest53
      case hy53 => (refine Or.inl ⟨by rfl, ?_⟩; intro W hSw; (try dsimp only at hSw); go_simp; (try with_reducible rfl))
      try simp only [Act.put, List.setIfInBounds_toArray, List.set_cons_zero, List.set_cons_succ]
      clear q0 q1 r1 r2
      obtain ⟨wD, hwD⟩ : ∃ wD, wD = w3.drew := ⟨_, rfl⟩
      rw [← hwD] at hHeld ⊢
      have HBX : Hid (Below w1.heap.size w1 wD) := Lib.hid (by rw [hwD]; exact below_drew HB3.out)
      clear hwD
      have k4 := (HC.out _ HBX.out).2.2.2
      refine wpAnyH_ready (rs := [4, 7, 9]) (by kernel_rfl) (by simp) ?_
      refine AllReadyH.cons (o := { dst := some 45, op := Op.load 82 (Operand.tmp 44), type := 82, pos := "lane.go:31", after := #[{ on := 3, ground := Ground.data }], guard := none }) rfl (fun K hK => ?step54) ?more54
      ((go_simp; go_wp2_with fail))
      refine hK.out _ _ ?hS54 (fun hHeld => ?rr54)
      case hS54 => (exact ⟨(HC.out _ HBX.out).1, (HC.out _ HBX.out).2.1⟩)
      clear hK K
      try simp only [Act.put, List.setIfInBounds_toArray, List.set_cons_zero, List.set_cons_succ]
      · clear k4
        refine wpAnyH_ready (rs := [7, 9]) (by kernel_rfl) (by simp) ?_
        refine AllReadyH.cons (o := { dst := some 48, op := Op.call { callee := Callee.value (Operand.func 106), args := #[Operand.tmp 46, Operand.tmp 47], argTypes := #[71, 4] }, type := 3, pos := "lane.go:31", after := #[{ on := 5, ground := Ground.data }, { on := 6, ground := Ground.data }], guard := none }) rfl (fun K hK => ?step55) ?more55
        ((go_simp; go_at_call 106; refine (HPL.out false _ HBX.out).mono ?_; rintro e w4 ⟨rfl, hb4⟩; go_wp2_with fail))
        refine hK.out _ _ ?hS55 (fun hHeld => ?rr55)
        case hS55 => (exact ⟨(HC.out _ (HBX.out.trans (hb4.mono HBX.out.size))).1, (HC.out _ (HBX.out.trans (hb4.mono HBX.out.size))).2.1⟩)
        clear hK K
        try simp only [Act.put, List.setIfInBounds_toArray, List.set_cons_zero, List.set_cons_succ]
        · have HBX := Lib.hid (HBX.out.trans (hb4.mono HBX.out.size))
          clear hb4
          refine wpAnyH_ready (rs := [9]) (by kernel_rfl) (by simp) ?_
          refine AllReadyH.cons (o := { dst := some 50, op := Op.buildSlice 82 1 #[(0, Operand.tmp 49)], type := 82, pos := "lane.go:31", after := #[{ on := 8, ground := Ground.data }], guard := none }) rfl (fun K hK => ?step56) ?more56
          case more56 => exact AllReadyH.nil
          ((go_simp; go_wp2_with fail))
          refine hK.out _ _ ?hS56 (fun hHeld => ?rr56)
          case hS56 => (exact ⟨(HC.out _ (HBX.out.trans ((below_new (w := w4) (.cells #[.int .i64 c.who, .bool cm] 106)).mono HBX.out.size))).1, (HC.out _ (HBX.out.trans ((below_new (w := w4) (.cells #[.int .i64 c.who, .bool cm] 106)).mono HBX.out.size))).2.1⟩)
          clear hK K
          try simp only [Act.put, List.setIfInBounds_toArray, List.set_cons_zero, List.set_cons_succ]
          have HBB := Lib.hid (And.intro HBX.out.size (alloc_at w4 (.cells #[.int .i64 c.who, .bool cm] 106)))
          have HBX := Lib.hid (HBX.out.trans ((below_new (w := w4) (.cells #[.int .i64 c.who, .bool cm] 106)).mono HBX.out.size))
          refine wpAnyH_ready (rs := [10]) (by kernel_rfl) (by simp) ?_
          refine AllReadyH.cons (o := { dst := some 51, op := Op.call { callee := Callee.value (Operand.func 105), args := #[Operand.tmp 45, Operand.tmp 48, Operand.tmp 50], argTypes := #[82, 3, 82] }, type := 82, pos := "lane.go:31", after := #[{ on := 4, ground := Ground.data }, { on := 7, ground := Ground.data }, { on := 9, ground := Ground.data }, { on := 7, ground := Ground.chain }], guard := none }) rfl (fun K hK => ?step57) ?more57
          case more57 => exact AllReadyH.nil
          ((go_simp; go_at_call 105; refine (HIN.out false _ _ HBX.out HBB.out.1 HBB.out.2).mono ?_; rintro e w6 ⟨A6, n6, c6, rfl, hr6, ho6, ht6⟩; go_wp2_with fail))
          refine hK.out _ _ ?hS57 (fun hHeld => ?rr57)
          case hS57 => (exact (HS6.out _ w6 undef HBX.out ht6).1)
          clear hK K
          try simp only [Act.put, List.setIfInBounds_toArray, List.set_cons_zero, List.set_cons_succ]
          have HF6 := Lib.hid (HFIN.out false _ w6 _ HBX.out hr6 ho6 ht6)
          have HS7 := Lib.hid (HS6.out _ w6 (.slice A6 n6 c6) HBX.out ht6).2.1
          have z1 := (HS6.out _ w6 undef HBX.out ht6).2.2.1
          have z2 := (HS6.out _ w6 undef HBX.out ht6).2.2.2
          clear hr6 ho6 ht6
          refine wpAnyH_take (i := 11) (oi := { dst := some 52, op := Op.nilCheck (Operand.tmp 41), type := 0, pos := "lane.go:31", after := #[{ on := 0, ground := Ground.data }, { on := 0, ground := Ground.phase }, { on := 1, ground := Ground.phase }, { on := 2, ground := Ground.phase }, { on := 3, ground := Ground.phase }, { on := 4, ground := Ground.phase }, { on := 5, ground := Ground.phase }, { on := 6, ground := Ground.phase }, { on := 7, ground := Ground.phase }, { on := 8, ground := Ground.phase }, { on := 9, ground := Ground.phase }, { on := 10, ground := Ground.phase }], guard := none }) (v := ?vv58) rfl (by kernel_rfl) (by kernel_rfl) (by kernel_rfl) (fun _ _ _ h => h) ?hy58 (by assumption) ?rest58
          case hy58 => (refine Or.inl ⟨by rfl, ?_⟩; intro W hSw; (try dsimp only at hSw); go_simp; (try with_reducible rfl))
          try simp only [Act.put, List.setIfInBounds_toArray, List.set_cons_zero, List.set_cons_succ]
          refine wpAnyH_take (i := 12) (oi := { dst := some 53, op := Op.fieldAddr 84 (Operand.tmp 52) 2, type := 0, pos := "lane.go:31", after := #[{ on := 11, ground := Ground.data }, { on := 0, ground := Ground.phase }, { on := 1, ground := Ground.phase }, { on := 2, ground := Ground.phase }, { on := 3, ground := Ground.phase }, { on := 4, ground := Ground.phase }, { on := 5, ground := Ground.phase }, { on := 6, ground := Ground.phase }, { on := 7, ground := Ground.phase }, { on := 8, ground := Ground.phase }, { on := 9, ground := Ground.phase }, { on := 10, ground := Ground.phase }], guard := none }) (v := ?vv59) rfl (by kernel_rfl) (by kernel_rfl) (by kernel_rfl) (fun _ _ _ h => h) ?hy59 (by assumption) ?rest59
          case hy59 => (refine Or.inl ⟨by rfl, ?_⟩; intro W hSw; (try dsimp only at hSw); go_simp; (try with_reducible rfl))
          try simp only [Act.put, List.setIfInBounds_toArray, List.set_cons_zero, List.set_cons_succ]
          refine wpAnyH_ready (rs := [13]) (by kernel_rfl) (by simp) ?_
          refine AllReadyH.cons (o := { dst := none, op := Op.store 82 (Operand.tmp 53) (Operand.tmp 51), type := 0, pos := "lane.go:31", after := #[{ on := 12, ground := Ground.data }, { on := 10, ground := Ground.data }, { on := 10, ground := Ground.chain }, { on := 0, ground := Ground.phase }, { on := 1, ground := Ground.phase }, { on := 2, ground := Ground.phase }, { on := 3, ground := Ground.phase }, { on := 4, ground := Ground.phase }, { on := 5, ground := Ground.phase }, { on := 6, ground := Ground.phase }, { on := 7, ground := Ground.phase }, { on := 8, ground := Ground.phase }, { on := 9, ground := Ground.phase }, { on := 10, ground := Ground.phase }], guard := none }) rfl (fun K hK => ?step60) ?more60
          case more60 => exact AllReadyH.nil
          ((go_simp; go_wp2_with fail))
          refine hK.out _ _ ?hS60 (fun hHeld => ?rr60)
          case hS60 => (exact HS7.out)
          clear hK K
          try simp only [Act.put, List.setIfInBounds_toArray, List.set_cons_zero, List.set_cons_succ]
          refine wpAnyH_done (by kernel_rfl) ?_ _
          clear hHeld z1 z2
          go_wp2_with fail
          refine bodyPost_ret (v := .bool false) (by simp [results, Tryz.results76, go_sem]) rfl ⟨_, by rw [HLV.out], by rw [HLV.out]; exact HF6.out.1, HF6.out.2.1, HF6.out.2.2⟩
        · skip
          refine AllReadyH.cons (o := { dst := some 50, op := Op.buildSlice 82 1 #[(0, Operand.tmp 49)], type := 82, pos := "lane.go:31", after := #[{ on := 8, ground := Ground.data }], guard := none }) rfl (fun K hK => ?step61) ?more61
          case more61 => exact AllReadyH.nil
          ((go_simp; go_wp2_with fail))
          refine hK.out _ _ ?hS61 (fun hHeld => ?rr61)
          case hS61 => (exact ⟨(HC.out _ (HBX.out.trans ((below_new (w := wD) (.cells #[.int .i64 c.who, .bool cm] 106)).mono HBX.out.size))).1, (HC.out _ (HBX.out.trans ((below_new (w := wD) (.cells #[.int .i64 c.who, .bool cm] 106)).mono HBX.out.size))).2.1⟩)
          clear hK K
          try simp only [Act.put, List.setIfInBounds_toArray, List.set_cons_zero, List.set_cons_succ]
          have HBB := Lib.hid (And.intro HBX.out.size (alloc_at wD (.cells #[.int .i64 c.who, .bool cm] 106)))
          have HBX := Lib.hid (HBX.out.trans ((below_new (w := wD) (.cells #[.int .i64 c.who, .bool cm] 106)).mono HBX.out.size))
          refine wpAnyH_ready (rs := [7]) (by kernel_rfl) (by simp) ?_
          refine AllReadyH.cons (o := { dst := some 48, op := Op.call { callee := Callee.value (Operand.func 106), args := #[Operand.tmp 46, Operand.tmp 47], argTypes := #[71, 4] }, type := 3, pos := "lane.go:31", after := #[{ on := 5, ground := Ground.data }, { on := 6, ground := Ground.data }], guard := none }) rfl (fun K hK => ?step62) ?more62
          case more62 => exact AllReadyH.nil
          ((go_simp; go_at_call 106; refine (HPL.out false _ HBX.out).mono ?_; rintro e w4 ⟨rfl, hb4⟩; go_wp2_with fail))
          refine hK.out _ _ ?hS62 (fun hHeld => ?rr62)
          case hS62 => (exact ⟨(HC.out _ (HBX.out.trans (hb4.mono HBX.out.size))).1, (HC.out _ (HBX.out.trans (hb4.mono HBX.out.size))).2.1⟩)
          clear hK K
          try simp only [Act.put, List.setIfInBounds_toArray, List.set_cons_zero, List.set_cons_succ]
          have HBB := Lib.hid (And.intro HBB.out.1 ((hb4.block _ (heap_lt HBB.out.2)).trans HBB.out.2))
          have HBX := Lib.hid (HBX.out.trans (hb4.mono HBX.out.size))
          clear hb4
          refine wpAnyH_ready (rs := [10]) (by kernel_rfl) (by simp) ?_
          refine AllReadyH.cons (o := { dst := some 51, op := Op.call { callee := Callee.value (Operand.func 105), args := #[Operand.tmp 45, Operand.tmp 48, Operand.tmp 50], argTypes := #[82, 3, 82] }, type := 82, pos := "lane.go:31", after := #[{ on := 4, ground := Ground.data }, { on := 7, ground := Ground.data }, { on := 9, ground := Ground.data }, { on := 7, ground := Ground.chain }], guard := none }) rfl (fun K hK => ?step63) ?more63
          case more63 => exact AllReadyH.nil
          ((go_simp; go_at_call 105; refine (HIN.out false _ _ HBX.out HBB.out.1 HBB.out.2).mono ?_; rintro e w6 ⟨A6, n6, c6, rfl, hr6, ho6, ht6⟩; go_wp2_with fail))
          refine hK.out _ _ ?hS63 (fun hHeld => ?rr63)
          case hS63 => (exact (HS6.out _ w6 undef HBX.out ht6).1)
          clear hK K
          try simp only [Act.put, List.setIfInBounds_toArray, List.set_cons_zero, List.set_cons_succ]
          have HF6 := Lib.hid (HFIN.out false _ w6 _ HBX.out hr6 ho6 ht6)
          have HS7 := Lib.hid (HS6.out _ w6 (.slice A6 n6 c6) HBX.out ht6).2.1
          have z1 := (HS6.out _ w6 undef HBX.out ht6).2.2.1
          have z2 := (HS6.out _ w6 undef HBX.out ht6).2.2.2
          clear hr6 ho6 ht6
          refine wpAnyH_take (i := 11) (oi := { dst := some 52, op := Op.nilCheck (Operand.tmp 41), type := 0, pos := "lane.go:31", after := #[{ on := 0, ground := Ground.data }, { on := 0, ground := Ground.phase }, { on := 1, ground := Ground.phase }, { on := 2, ground := Ground.phase }, { on := 3, ground := Ground.phase }, { on := 4, ground := Ground.phase }, { on := 5, ground := Ground.phase }, { on := 6, ground := Ground.phase }, { on := 7, ground := Ground.phase }, { on := 8, ground := Ground.phase }, { on := 9, ground := Ground.phase }, { on := 10, ground := Ground.phase }], guard := none }) (v := ?vv64) rfl (by kernel_rfl) (by kernel_rfl) (by kernel_rfl) (fun _ _ _ h => h) ?hy64 (by assumption) ?rest64
          case hy64 => (refine Or.inl ⟨by rfl, ?_⟩; intro W hSw; (try dsimp only at hSw); go_simp; (try with_reducible rfl))
          try simp only [Act.put, List.setIfInBounds_toArray, List.set_cons_zero, List.set_cons_succ]
          refine wpAnyH_take (i := 12) (oi := { dst := some 53, op := Op.fieldAddr 84 (Operand.tmp 52) 2, type := 0, pos := "lane.go:31", after := #[{ on := 11, ground := Ground.data }, { on := 0, ground := Ground.phase }, { on := 1, ground := Ground.phase }, { on := 2, ground := Ground.phase }, { on := 3, ground := Ground.phase }, { on := 4, ground := Ground.phase }, { on := 5, ground := Ground.phase }, { on := 6, ground := Ground.phase }, { on := 7, ground := Ground.phase }, { on := 8, ground := Ground.phase }, { on := 9, ground := Ground.phase }, { on := 10, ground := Ground.phase }], guard := none }) (v := ?vv65) rfl (by kernel_rfl) (by kernel_rfl) (by kernel_rfl) (fun _ _ _ h => h) ?hy65 (by assumption) ?rest65
          case hy65 => (refine Or.inl ⟨by rfl, ?_⟩; intro W hSw; (try dsimp only at hSw); go_simp; (try with_reducible rfl))
          try simp only [Act.put, List.setIfInBounds_toArray, List.set_cons_zero, List.set_cons_succ]
          refine wpAnyH_ready (rs := [13]) (by kernel_rfl) (by simp) ?_
          refine AllReadyH.cons (o := { dst := none, op := Op.store 82 (Operand.tmp 53) (Operand.tmp 51), type := 0, pos := "lane.go:31", after := #[{ on := 12, ground := Ground.data }, { on := 10, ground := Ground.data }, { on := 10, ground := Ground.chain }, { on := 0, ground := Ground.phase }, { on := 1, ground := Ground.phase }, { on := 2, ground := Ground.phase }, { on := 3, ground := Ground.phase }, { on := 4, ground := Ground.phase }, { on := 5, ground := Ground.phase }, { on := 6, ground := Ground.phase }, { on := 7, ground := Ground.phase }, { on := 8, ground := Ground.phase }, { on := 9, ground := Ground.phase }, { on := 10, ground := Ground.phase }], guard := none }) rfl (fun K hK => ?step66) ?more66
          case more66 => exact AllReadyH.nil
          ((go_simp; go_wp2_with fail))
          refine hK.out _ _ ?hS66 (fun hHeld => ?rr66)
          case hS66 => (exact HS7.out)
          clear hK K
          try simp only [Act.put, List.setIfInBounds_toArray, List.set_cons_zero, List.set_cons_succ]
          refine wpAnyH_done (by kernel_rfl) ?_ _
          clear hHeld z1 z2
          go_wp2_with fail
          refine bodyPost_ret (v := .bool false) (by simp [results, Tryz.results76, go_sem]) rfl ⟨_, by rw [HLV.out], by rw [HLV.out]; exact HF6.out.1, HF6.out.2.1, HF6.out.2.2⟩
      · skip
        refine AllReadyH.cons (o := { dst := some 48, op := Op.call { callee := Callee.value (Operand.func 106), args := #[Operand.tmp 46, Operand.tmp 47], argTypes := #[71, 4] }, type := 3, pos := "lane.go:31", after := #[{ on := 5, ground := Ground.data }, { on := 6, ground := Ground.data }], guard := none }) rfl (fun K hK => ?step67) ?more67
        ((go_simp; go_at_call 106; refine (HPL.out false _ HBX.out).mono ?_; rintro e w4 ⟨rfl, hb4⟩; go_wp2_with fail))
        refine hK.out _ _ ?hS67 (fun hHeld => ?rr67)
        case hS67 => (exact ⟨(HC.out _ (HBX.out.trans (hb4.mono HBX.out.size))).1, (HC.out _ (HBX.out.trans (hb4.mono HBX.out.size))).2.1⟩)
        clear hK K
        try simp only [Act.put, List.setIfInBounds_toArray, List.set_cons_zero, List.set_cons_succ]
        · have HBX := Lib.hid (HBX.out.trans (hb4.mono HBX.out.size))
          clear hb4
          clear k4
          have k4 := (HC.out _ HBX.out).2.2.2
          refine wpAnyH_ready (rs := [4, 9]) (by kernel_rfl) (by simp) ?_
          refine AllReadyH.cons (o := { dst := some 45, op := Op.load 82 (Operand.tmp 44), type := 82, pos := "lane.go:31", after := #[{ on := 3, ground := Ground.data }], guard := none }) rfl (fun K hK => ?step68) ?more68
          ((go_simp; go_wp2_with fail))
          refine hK.out _ _ ?hS68 (fun hHeld => ?rr68)
          case hS68 => (exact ⟨(HC.out _ HBX.out).1, (HC.out _ HBX.out).2.1⟩)
          clear hK K
          try simp only [Act.put, List.setIfInBounds_toArray, List.set_cons_zero, List.set_cons_succ]
          · clear k4
            refine wpAnyH_ready (rs := [9]) (by kernel_rfl) (by simp) ?_
            refine AllReadyH.cons (o := { dst := some 50, op := Op.buildSlice 82 1 #[(0, Operand.tmp 49)], type := 82, pos := "lane.go:31", after := #[{ on := 8, ground := Ground.data }], guard := none }) rfl (fun K hK => ?step69) ?more69
            case more69 => exact AllReadyH.nil
            ((go_simp; go_wp2_with fail))
            refine hK.out _ _ ?hS69 (fun hHeld => ?rr69)
            case hS69 => (exact ⟨(HC.out _ (HBX.out.trans ((below_new (w := w4) (.cells #[.int .i64 c.who, .bool cm] 106)).mono HBX.out.size))).1, (HC.out _ (HBX.out.trans ((below_new (w := w4) (.cells #[.int .i64 c.who, .bool cm] 106)).mono HBX.out.size))).2.1⟩)
            clear hK K
            try simp only [Act.put, List.setIfInBounds_toArray, List.set_cons_zero, List.set_cons_succ]
            have HBB := Lib.hid (And.intro HBX.out.size (alloc_at w4 (.cells #[.int .i64 c.who, .bool cm] 106)))
            have HBX := Lib.hid (HBX.out.trans ((below_new (w := w4) (.cells #[.int .i64 c.who, .bool cm] 106)).mono HBX.out.size))
            refine wpAnyH_ready (rs := [10]) (by kernel_rfl) (by simp) ?_
            refine AllReadyH.cons (o := { dst := some 51, op := Op.call { callee := Callee.value (Operand.func 105), args := #[Operand.tmp 45, Operand.tmp 48, Operand.tmp 50], argTypes := #[82, 3, 82] }, type := 82, pos := "lane.go:31", after := #[{ on := 4, ground := Ground.data }, { on := 7, ground := Ground.data }, { on := 9, ground := Ground.data }, { on := 7, ground := Ground.chain }], guard := none }) rfl (fun K hK => ?step70) ?more70
            case more70 => exact AllReadyH.nil
            ((go_simp; go_at_call 105; refine (HIN.out false _ _ HBX.out HBB.out.1 HBB.out.2).mono ?_; rintro e w6 ⟨A6, n6, c6, rfl, hr6, ho6, ht6⟩; go_wp2_with fail))
            refine hK.out _ _ ?hS70 (fun hHeld => ?rr70)
            case hS70 => (exact (HS6.out _ w6 undef HBX.out ht6).1)
            clear hK K
            try simp only [Act.put, List.setIfInBounds_toArray, List.set_cons_zero, List.set_cons_succ]
            have HF6 := Lib.hid (HFIN.out false _ w6 _ HBX.out hr6 ho6 ht6)
            have HS7 := Lib.hid (HS6.out _ w6 (.slice A6 n6 c6) HBX.out ht6).2.1
            have z1 := (HS6.out _ w6 undef HBX.out ht6).2.2.1
            have z2 := (HS6.out _ w6 undef HBX.out ht6).2.2.2
            clear hr6 ho6 ht6
            refine wpAnyH_take (i := 11) (oi := { dst := some 52, op := Op.nilCheck (Operand.tmp 41), type := 0, pos := "lane.go:31", after := #[{ on := 0, ground := Ground.data }, { on := 0, ground := Ground.phase }, { on := 1, ground := Ground.phase }, { on := 2, ground := Ground.phase }, { on := 3, ground := Ground.phase }, { on := 4, ground := Ground.phase }, { on := 5, ground := Ground.phase }, { on := 6, ground := Ground.phase }, { on := 7, ground := Ground.phase }, { on := 8, ground := Ground.phase }, { on := 9, ground := Ground.phase }, { on := 10, ground := Ground.phase }], guard := none }) (v := ?vv71) rfl (by kernel_rfl) (by kernel_rfl) (by kernel_rfl) (fun _ _ _ h => h) ?hy71 (by assumption) ?rest71
            case hy71 => (refine Or.inl ⟨by rfl, ?_⟩; intro W hSw; (try dsimp only at hSw); go_simp; (try with_reducible rfl))
            try simp only [Act.put, List.setIfInBounds_toArray, List.set_cons_zero, List.set_cons_succ]
            refine wpAnyH_take (i := 12) (oi := { dst := some 53, op := Op.fieldAddr 84 (Operand.tmp 52) 2, type := 0, pos := "lane.go:31", after := #[{ on := 11, ground := Ground.data }, { on := 0, ground := Ground.phase }, { on := 1, ground := Ground.phase }, { on := 2, ground := Ground.phase }, { on := 3, ground := Ground.phase }, { on := 4, ground := Ground.phase }, { on := 5, ground := Ground.phase }, { on := 6, ground := Ground.phase }, { on := 7, ground := Ground.phase }, { on := 8, ground := Ground.phase }, { on := 9, ground := Ground.phase }, { on := 10, ground := Ground.phase }], guard := none }) (v := ?vv72) rfl (by kernel_rfl) (by kernel_rfl) (by kernel_rfl) (fun _ _ _ h => h) ?hy72 (by assumption) ?rest72
            case hy72 => (refine Or.inl ⟨by rfl, ?_⟩; intro W hSw; (try dsimp only at hSw); go_simp; (try with_reducible rfl))
            try simp only [Act.put, List.setIfInBounds_toArray, List.set_cons_zero, List.set_cons_succ]
            refine wpAnyH_ready (rs := [13]) (by kernel_rfl) (by simp) ?_
            refine AllReadyH.cons (o := { dst := none, op := Op.store 82 (Operand.tmp 53) (Operand.tmp 51), type := 0, pos := "lane.go:31", after := #[{ on := 12, ground := Ground.data }, { on := 10, ground := Ground.data }, { on := 10, ground := Ground.chain }, { on := 0, ground := Ground.phase }, { on := 1, ground := Ground.phase }, { on := 2, ground := Ground.phase }, { on := 3, ground := Ground.phase }, { on := 4, ground := Ground.phase }, { on := 5, ground := Ground.phase }, { on := 6, ground := Ground.phase }, { on := 7, ground := Ground.phase }, { on := 8, ground := Ground.phase }, { on := 9, ground := Ground.phase }, { on := 10, ground := Ground.phase }], guard := none }) rfl (fun K hK => ?step73) ?more73
            case more73 => exact AllReadyH.nil
            ((go_simp; go_wp2_with fail))
            refine hK.out _ _ ?hS73 (fun hHeld => ?rr73)
            case hS73 => (exact HS7.out)
            clear hK K
            try simp only [Act.put, List.setIfInBounds_toArray, List.set_cons_zero, List.set_cons_succ]
            refine wpAnyH_done (by kernel_rfl) ?_ _
            clear hHeld z1 z2
            go_wp2_with fail
            refine bodyPost_ret (v := .bool false) (by simp [results, Tryz.results76, go_sem]) rfl ⟨_, by rw [HLV.out], by rw [HLV.out]; exact HF6.out.1, HF6.out.2.1, HF6.out.2.2⟩
          · skip
            refine AllReadyH.cons (o := { dst := some 50, op := Op.buildSlice 82 1 #[(0, Operand.tmp 49)], type := 82, pos := "lane.go:31", after := #[{ on := 8, ground := Ground.data }], guard := none }) rfl (fun K hK => ?step74) ?more74
            case more74 => exact AllReadyH.nil
            ((go_simp; go_wp2_with fail))
            refine hK.out _ _ ?hS74 (fun hHeld => ?rr74)
            case hS74 => (exact ⟨(HC.out _ (HBX.out.trans ((below_new (w := w4) (.cells #[.int .i64 c.who, .bool cm] 106)).mono HBX.out.size))).1, (HC.out _ (HBX.out.trans ((below_new (w := w4) (.cells #[.int .i64 c.who, .bool cm] 106)).mono HBX.out.size))).2.1⟩)
            clear hK K
            try simp only [Act.put, List.setIfInBounds_toArray, List.set_cons_zero, List.set_cons_succ]
            have HBB := Lib.hid (And.intro HBX.out.size (alloc_at w4 (.cells #[.int .i64 c.who, .bool cm] 106)))
            have HBX := Lib.hid (HBX.out.trans ((below_new (w := w4) (.cells #[.int .i64 c.who, .bool cm] 106)).mono HBX.out.size))
            clear k4
            have k4 := (HC.out _ HBX.out).2.2.2
            refine wpAnyH_ready (rs := [4]) (by kernel_rfl) (by simp) ?_
            refine AllReadyH.cons (o := { dst := some 45, op := Op.load 82 (Operand.tmp 44), type := 82, pos := "lane.go:31", after := #[{ on := 3, ground := Ground.data }], guard := none }) rfl (fun K hK => ?step75) ?more75
            case more75 => exact AllReadyH.nil
            ((go_simp; go_wp2_with fail))
            refine hK.out _ _ ?hS75 (fun hHeld => ?rr75)
            case hS75 => (exact ⟨(HC.out _ HBX.out).1, (HC.out _ HBX.out).2.1⟩)
            clear hK K
            try simp only [Act.put, List.setIfInBounds_toArray, List.set_cons_zero, List.set_cons_succ]
            clear k4
            refine wpAnyH_ready (rs := [10]) (by kernel_rfl) (by simp) ?_
            refine AllReadyH.cons (o := { dst := some 51, op := Op.call { callee := Callee.value (Operand.func 105), args := #[Operand.tmp 45, Operand.tmp 48, Operand.tmp 50], argTypes := #[82, 3, 82] }, type := 82, pos := "lane.go:31", after := #[{ on := 4, ground := Ground.data }, { on := 7, ground := Ground.data }, { on := 9, ground := Ground.data }, { on := 7, ground := Ground.chain }], guard := none }) rfl (fun K hK => ?step76) ?more76
            case more76 => exact AllReadyH.nil
            ((go_simp; go_at_call 105; refine (HIN.out false _ _ HBX.out HBB.out.1 HBB.out.2).mono ?_; rintro e w6 ⟨A6, n6, c6, rfl, hr6, ho6, ht6⟩; go_wp2_with fail))
            refine hK.out _ _ ?hS76 (fun hHeld => ?rr76)
            case hS76 => (exact (HS6.out _ w6 undef HBX.out ht6).1)
            clear hK K
            try simp only [Act.put, List.setIfInBounds_toArray, List.set_cons_zero, List.set_cons_succ]
            have HF6 := Lib.hid (HFIN.out false _ w6 _ HBX.out hr6 ho6 ht6)
            have HS7 := Lib.hid (HS6.out _ w6 (.slice A6 n6 c6) HBX.out ht6).2.1
            have z1 := (HS6.out _ w6 undef HBX.out ht6).2.2.1
            have z2 := (HS6.out _ w6 undef HBX.out ht6).2.2.2
            clear hr6 ho6 ht6
            refine wpAnyH_take (i := 11) (oi := { dst := some 52, op := Op.nilCheck (Operand.tmp 41), type := 0, pos := "lane.go:31", after := #[{ on := 0, ground := Ground.data }, { on := 0, ground := Ground.phase }, { on := 1, ground := Ground.phase }, { on := 2, ground := Ground.phase }, { on := 3, ground := Ground.phase }, { on := 4, ground := Ground.phase }, { on := 5, ground := Ground.phase }, { on := 6, ground := Ground.phase }, { on := 7, ground := Ground.phase }, { on := 8, ground := Ground.phase }, { on := 9, ground := Ground.phase }, { on := 10, ground := Ground.phase }], guard := none }) (v := ?vv77) rfl (by kernel_rfl) (by kernel_rfl) (by kernel_rfl) (fun _ _ _ h => h) ?hy77 (by assumption) ?rest77
            case hy77 => (refine Or.inl ⟨by rfl, ?_⟩; intro W hSw; (try dsimp only at hSw); go_simp; (try with_reducible rfl))
            try simp only [Act.put, List.setIfInBounds_toArray, List.set_cons_zero, List.set_cons_succ]
            refine wpAnyH_take (i := 12) (oi := { dst := some 53, op := Op.fieldAddr 84 (Operand.tmp 52) 2, type := 0, pos := "lane.go:31", after := #[{ on := 11, ground := Ground.data }, { on := 0, ground := Ground.phase }, { on := 1, ground := Ground.phase }, { on := 2, ground := Ground.phase }, { on := 3, ground := Ground.phase }, { on := 4, ground := Ground.phase }, { on := 5, ground := Ground.phase }, { on := 6, ground := Ground.phase }, { on := 7, ground := Ground.phase }, { on := 8, ground := Ground.phase }, { on := 9, ground := Ground.phase }, { on := 10, ground := Ground.phase }], guard := none }) (v := ?vv78) rfl (by kernel_rfl) (by kernel_rfl) (by kernel_rfl) (fun _ _ _ h => h) ?hy78 (by assumption) ?rest78
            case hy78 => (refine Or.inl ⟨by rfl, ?_⟩; intro W hSw; (try dsimp only at hSw); go_simp; (try with_reducible rfl))
            try simp only [Act.put, List.setIfInBounds_toArray, List.set_cons_zero, List.set_cons_succ]
            refine wpAnyH_ready (rs := [13]) (by kernel_rfl) (by simp) ?_
            refine AllReadyH.cons (o := { dst := none, op := Op.store 82 (Operand.tmp 53) (Operand.tmp 51), type := 0, pos := "lane.go:31", after := #[{ on := 12, ground := Ground.data }, { on := 10, ground := Ground.data }, { on := 10, ground := Ground.chain }, { on := 0, ground := Ground.phase }, { on := 1, ground := Ground.phase }, { on := 2, ground := Ground.phase }, { on := 3, ground := Ground.phase }, { on := 4, ground := Ground.phase }, { on := 5, ground := Ground.phase }, { on := 6, ground := Ground.phase }, { on := 7, ground := Ground.phase }, { on := 8, ground := Ground.phase }, { on := 9, ground := Ground.phase }, { on := 10, ground := Ground.phase }], guard := none }) rfl (fun K hK => ?step79) ?more79
            case more79 => exact AllReadyH.nil
            ((go_simp; go_wp2_with fail))
            refine hK.out _ _ ?hS79 (fun hHeld => ?rr79)
            case hS79 => (exact HS7.out)
            clear hK K
            try simp only [Act.put, List.setIfInBounds_toArray, List.set_cons_zero, List.set_cons_succ]
            refine wpAnyH_done (by kernel_rfl) ?_ _
            clear hHeld z1 z2
            go_wp2_with fail
            refine bodyPost_ret (v := .bool false) (by simp [results, Tryz.results76, go_sem]) rfl ⟨_, by rw [HLV.out], by rw [HLV.out]; exact HF6.out.1, HF6.out.2.1, HF6.out.2.2⟩
        · skip
          refine AllReadyH.cons (o := { dst := some 50, op := Op.buildSlice 82 1 #[(0, Operand.tmp 49)], type := 82, pos := "lane.go:31", after := #[{ on := 8, ground := Ground.data }], guard := none }) rfl (fun K hK => ?step80) ?more80
          case more80 => exact AllReadyH.nil
          ((go_simp; go_wp2_with fail))
          refine hK.out _ _ ?hS80 (fun hHeld => ?rr80)
          case hS80 => (exact ⟨(HC.out _ (HBX.out.trans ((below_new (w := wD) (.cells #[.int .i64 c.who, .bool cm] 106)).mono HBX.out.size))).1, (HC.out _ (HBX.out.trans ((below_new (w := wD) (.cells #[.int .i64 c.who, .bool cm] 106)).mono HBX.out.size))).2.1⟩)
          clear hK K
          try simp only [Act.put, List.setIfInBounds_toArray, List.set_cons_zero, List.set_cons_succ]
          have HBB := Lib.hid (And.intro HBX.out.size (alloc_at wD (.cells #[.int .i64 c.who, .bool cm] 106)))
          have HBX := Lib.hid (HBX.out.trans ((below_new (w := wD) (.cells #[.int .i64 c.who, .bool cm] 106)).mono HBX.out.size))
          clear k4
          have k4 := (HC.out _ HBX.out).2.2.2
          refine wpAnyH_ready (rs := [4, 7]) (by kernel_rfl) (by simp) ?_
          refine AllReadyH.cons (o := { dst := some 45, op := Op.load 82 (Operand.tmp 44), type := 82, pos := "lane.go:31", after := #[{ on := 3, ground := Ground.data }], guard := none }) rfl (fun K hK => ?step81) ?more81
          ((go_simp; go_wp2_with fail))
          refine hK.out _ _ ?hS81 (fun hHeld => ?rr81)
          case hS81 => (exact ⟨(HC.out _ HBX.out).1, (HC.out _ HBX.out).2.1⟩)
          clear hK K
          try simp only [Act.put, List.setIfInBounds_toArray, List.set_cons_zero, List.set_cons_succ]
          · clear k4
            refine wpAnyH_ready (rs := [7]) (by kernel_rfl) (by simp) ?_
            refine AllReadyH.cons (o := { dst := some 48, op := Op.call { callee := Callee.value (Operand.func 106), args := #[Operand.tmp 46, Operand.tmp 47], argTypes := #[71, 4] }, type := 3, pos := "lane.go:31", after := #[{ on := 5, ground := Ground.data }, { on := 6, ground := Ground.data }], guard := none }) rfl (fun K hK => ?step82) ?more82
            case more82 => exact AllReadyH.nil
            ((go_simp; go_at_call 106; refine (HPL.out false _ HBX.out).mono ?_; rintro e w4 ⟨rfl, hb4⟩; go_wp2_with fail))
            refine hK.out _ _ ?hS82 (fun hHeld => ?rr82)
            case hS82 => (exact ⟨(HC.out _ (HBX.out.trans (hb4.mono HBX.out.size))).1, (HC.out _ (HBX.out.trans (hb4.mono HBX.out.size))).2.1⟩)
            clear hK K
            try simp only [Act.put, List.setIfInBounds_toArray, List.set_cons_zero, List.set_cons_succ]
            have HBB := Lib.hid (And.intro HBB.out.1 ((hb4.block _ (heap_lt HBB.out.2)).trans HBB.out.2))
            have HBX := Lib.hid (HBX.out.trans (hb4.mono HBX.out.size))
            clear hb4
            refine wpAnyH_ready (rs := [10]) (by kernel_rfl) (by simp) ?_
            refine AllReadyH.cons (o := { dst := some 51, op := Op.call { callee := Callee.value (Operand.func 105), args := #[Operand.tmp 45, Operand.tmp 48, Operand.tmp 50], argTypes := #[82, 3, 82] }, type := 82, pos := "lane.go:31", after := #[{ on := 4, ground := Ground.data }, { on := 7, ground := Ground.data }, { on := 9, ground := Ground.data }, { on := 7, ground := Ground.chain }], guard := none }) rfl (fun K hK => ?step83) ?more83
            case more83 => exact AllReadyH.nil
            ((go_simp; go_at_call 105; refine (HIN.out false _ _ HBX.out HBB.out.1 HBB.out.2).mono ?_; rintro e w6 ⟨A6, n6, c6, rfl, hr6, ho6, ht6⟩; go_wp2_with fail))
            refine hK.out _ _ ?hS83 (fun hHeld => ?rr83)
            case hS83 => (exact (HS6.out _ w6 undef HBX.out ht6).1)
            clear hK K
            try simp only [Act.put, List.setIfInBounds_toArray, List.set_cons_zero, List.set_cons_succ]
            have HF6 := Lib.hid (HFIN.out false _ w6 _ HBX.out hr6 ho6 ht6)
            have HS7 := Lib.hid (HS6.out _ w6 (.slice A6 n6 c6) HBX.out ht6).2.1
            have z1 := (HS6.out _ w6 undef HBX.out ht6).2.2.1
            have z2 := (HS6.out _ w6 undef HBX.out ht6).2.2.2
            clear hr6 ho6 ht6
            refine wpAnyH_take (i := 11) (oi := { dst := some 52, op := Op.nilCheck (Operand.tmp 41), type := 0, pos := "lane.go:31", after := #[{ on := 0, ground := Ground.data }, { on := 0, ground := Ground.phase }, { on := 1, ground := Ground.phase }, { on := 2, ground := Ground.phase }, { on := 3, ground := Ground.phase }, { on := 4, ground := Ground.phase }, { on := 5, ground := Ground.phase }, { on := 6, ground := Ground.phase }, { on := 7, ground := Ground.phase }, { on := 8, ground := Ground.phase }, { on := 9, ground := Ground.phase }, { on := 10, ground := Ground.phase }], guard := none }) (v := ?vv84) rfl (by kernel_rfl) (by kernel_rfl) (by kernel_rfl) (fun _ _ _ h => h) ?hy84 (by assumption) ?rest84
            case hy84 => (refine Or.inl ⟨by rfl, ?_⟩; intro W hSw; (try dsimp only at hSw); go_simp; (try with_reducible rfl))
            try simp only [Act.put, List.setIfInBounds_toArray, List.set_cons_zero, List.set_cons_succ]
            refine wpAnyH_take (i := 12) (oi := { dst := some 53, op := Op.fieldAddr 84 (Operand.tmp 52) 2, type := 0, pos := "lane.go:31", after := #[{ on := 11, ground := Ground.data }, { on := 0, ground := Ground.phase }, { on := 1, ground := Ground.phase }, { on := 2, ground := Ground.phase }, { on := 3, ground := Ground.phase }, { on := 4, ground := Ground.phase }, { on := 5, ground := Ground.phase }, { on := 6, ground := Ground.phase }, { on := 7, ground := Ground.phase }, { on := 8, ground := Ground.phase }, { on := 9, ground := Ground.phase }, { on := 10, ground := Ground.phase }], guard := none }) (v := ?vv85) rfl (by kernel_rfl) (by kernel_rfl) (by kernel_rfl) (fun _ _ _ h => h) ?hy85 (by assumption) ?rest85
            case hy85 => (refine Or.inl ⟨by rfl, ?_⟩; intro W hSw; (try dsimp only at hSw); go_simp; (try with_reducible rfl))
            try simp only [Act.put, List.setIfInBounds_toArray, List.set_cons_zero, List.set_cons_succ]
            refine wpAnyH_ready (rs := [13]) (by kernel_rfl) (by simp) ?_
            refine AllReadyH.cons (o := { dst := none, op := Op.store 82 (Operand.tmp 53) (Operand.tmp 51), type := 0, pos := "lane.go:31", after := #[{ on := 12, ground := Ground.data }, { on := 10, ground := Ground.data }, { on := 10, ground := Ground.chain }, { on := 0, ground := Ground.phase }, { on := 1, ground := Ground.phase }, { on := 2, ground := Ground.phase }, { on := 3, ground := Ground.phase }, { on := 4, ground := Ground.phase }, { on := 5, ground := Ground.phase }, { on := 6, ground := Ground.phase }, { on := 7, ground := Ground.phase }, { on := 8, ground := Ground.phase }, { on := 9, ground := Ground.phase }, { on := 10, ground := Ground.phase }], guard := none }) rfl (fun K hK => ?step86) ?more86
            case more86 => exact AllReadyH.nil
            ((go_simp; go_wp2_with fail))
            refine hK.out _ _ ?hS86 (fun hHeld => ?rr86)
            case hS86 => (exact HS7.out)
            clear hK K
            try simp only [Act.put, List.setIfInBounds_toArray, List.set_cons_zero, List.set_cons_succ]
            refine wpAnyH_done (by kernel_rfl) ?_ _
            clear hHeld z1 z2
            go_wp2_with fail
            refine bodyPost_ret (v := .bool false) (by simp [results, Tryz.results76, go_sem]) rfl ⟨_, by rw [HLV.out], by rw [HLV.out]; exact HF6.out.1, HF6.out.2.1, HF6.out.2.2⟩
          · skip
            refine AllReadyH.cons (o := { dst := some 48, op := Op.call { callee := Callee.value (Operand.func 106), args := #[Operand.tmp 46, Operand.tmp 47], argTypes := #[71, 4] }, type := 3, pos := "lane.go:31", after := #[{ on := 5, ground := Ground.data }, { on := 6, ground := Ground.data }], guard := none }) rfl (fun K hK => ?step87) ?more87
            case more87 => exact AllReadyH.nil
            ((go_simp; go_at_call 106; refine (HPL.out false _ HBX.out).mono ?_; rintro e w4 ⟨rfl, hb4⟩; go_wp2_with fail))
            refine hK.out _ _ ?hS87 (fun hHeld => ?rr87)
            case hS87 => (exact ⟨(HC.out _ (HBX.out.trans (hb4.mono HBX.out.size))).1, (HC.out _ (HBX.out.trans (hb4.mono HBX.out.size))).2.1⟩)
            clear hK K
            try simp only [Act.put, List.setIfInBounds_toArray, List.set_cons_zero, List.set_cons_succ]
            have HBB := Lib.hid (And.intro HBB.out.1 ((hb4.block _ (heap_lt HBB.out.2)).trans HBB.out.2))
            have HBX := Lib.hid (HBX.out.trans (hb4.mono HBX.out.size))
            clear hb4
            clear k4
            have k4 := (HC.out _ HBX.out).2.2.2
            refine wpAnyH_ready (rs := [4]) (by kernel_rfl) (by simp) ?_
            refine AllReadyH.cons (o := { dst := some 45, op := Op.load 82 (Operand.tmp 44), type := 82, pos := "lane.go:31", after := #[{ on := 3, ground := Ground.data }], guard := none }) rfl (fun K hK => ?step88) ?more88
            case more88 => exact AllReadyH.nil
            ((go_simp; go_wp2_with fail))
            refine hK.out _ _ ?hS88 (fun hHeld => ?rr88)
            case hS88 => (exact ⟨(HC.out _ HBX.out).1, (HC.out _ HBX.out).2.1⟩)
            clear hK K
            try simp only [Act.put, List.setIfInBounds_toArray, List.set_cons_zero, List.set_cons_succ]
            clear k4
            refine wpAnyH_ready (rs := [10]) (by kernel_rfl) (by simp) ?_
            refine AllReadyH.cons (o := { dst := some 51, op := Op.call { callee := Callee.value (Operand.func 105), args := #[Operand.tmp 45, Operand.tmp 48, Operand.tmp 50], argTypes := #[82, 3, 82] }, type := 82, pos := "lane.go:31", after := #[{ on := 4, ground := Ground.data }, { on := 7, ground := Ground.data }, { on := 9, ground := Ground.data }, { on := 7, ground := Ground.chain }], guard := none }) rfl (fun K hK => ?step89) ?more89
            case more89 => exact AllReadyH.nil
            ((go_simp; go_at_call 105; refine (HIN.out false _ _ HBX.out HBB.out.1 HBB.out.2).mono ?_; rintro e w6 ⟨A6, n6, c6, rfl, hr6, ho6, ht6⟩; go_wp2_with fail))
            refine hK.out _ _ ?hS89 (fun hHeld => ?rr89)
            case hS89 => (exact (HS6.out _ w6 undef HBX.out ht6).1)
            clear hK K
            try simp only [Act.put, List.setIfInBounds_toArray, List.set_cons_zero, List.set_cons_succ]
            have HF6 := Lib.hid (HFIN.out false _ w6 _ HBX.out hr6 ho6 ht6)
            have HS7 := Lib.hid (HS6.out _ w6 (.slice A6 n6 c6) HBX.out ht6).2.1
            have z1 := (HS6.out _ w6 undef HBX.out ht6).2.2.1
            have z2 := (HS6.out _ w6 undef HBX.out ht6).2.2.2
            clear hr6 ho6 ht6
            refine wpAnyH_take (i := 11) (oi := { dst := some 52, op := Op.nilCheck (Operand.tmp 41), type := 0, pos := "lane.go:31", after := #[{ on := 0, ground := Ground.data }, { on := 0, ground := Ground.phase }, { on := 1, ground := Ground.phase }, { on := 2, ground := Ground.phase }, { on := 3, ground := Ground.phase }, { on := 4, ground := Ground.phase }, { on := 5, ground := Ground.phase }, { on := 6, ground := Ground.phase }, { on := 7, ground := Ground.phase }, { on := 8, ground := Ground.phase }, { on := 9, ground := Ground.phase }, { on := 10, ground := Ground.phase }], guard := none }) (v := ?vv90) rfl (by kernel_rfl) (by kernel_rfl) (by kernel_rfl) (fun _ _ _ h => h) ?hy90 (by assumption) ?rest90
            case hy90 => (refine Or.inl ⟨by rfl, ?_⟩; intro W hSw; (try dsimp only at hSw); go_simp; (try with_reducible rfl))
            try simp only [Act.put, List.setIfInBounds_toArray, List.set_cons_zero, List.set_cons_succ]
            refine wpAnyH_take (i := 12) (oi := { dst := some 53, op := Op.fieldAddr 84 (Operand.tmp 52) 2, type := 0, pos := "lane.go:31", after := #[{ on := 11, ground := Ground.data }, { on := 0, ground := Ground.phase }, { on := 1, ground := Ground.phase }, { on := 2, ground := Ground.phase }, { on := 3, ground := Ground.phase }, { on := 4, ground := Ground.phase }, { on := 5, ground := Ground.phase }, { on := 6, ground := Ground.phase }, { on := 7, ground := Ground.phase }, { on := 8, ground := Ground.phase }, { on := 9, ground := Ground.phase }, { on := 10, ground := Ground.phase }], guard := none }) (v := ?vv91) rfl (by kernel_rfl) (by kernel_rfl) (by kernel_rfl) (fun _ _ _ h => h) ?hy91 (by assumption) ?rest91
            case hy91 => (refine Or.inl ⟨by rfl, ?_⟩; intro W hSw; (try dsimp only at hSw); go_simp; (try with_reducible rfl))
            try simp only [Act.put, List.setIfInBounds_toArray, List.set_cons_zero, List.set_cons_succ]
            refine wpAnyH_ready (rs := [13]) (by kernel_rfl) (by simp) ?_
            refine AllReadyH.cons (o := { dst := none, op := Op.store 82 (Operand.tmp 53) (Operand.tmp 51), type := 0, pos := "lane.go:31", after := #[{ on := 12, ground := Ground.data }, { on := 10, ground := Ground.data }, { on := 10, ground := Ground.chain }, { on := 0, ground := Ground.phase }, { on := 1, ground := Ground.phase }, { on := 2, ground := Ground.phase }, { on := 3, ground := Ground.phase }, { on := 4, ground := Ground.phase }, { on := 5, ground := Ground.phase }, { on := 6, ground := Ground.phase }, { on := 7, ground := Ground.phase }, { on := 8, ground := Ground.phase }, { on := 9, ground := Ground.phase }, { on := 10, ground := Ground.phase }], guard := none }) rfl (fun K hK => ?step92) ?more92
            case more92 => exact AllReadyH.nil
            ((go_simp; go_wp2_with fail))
            refine hK.out _ _ ?hS92 (fun hHeld => ?rr92)
            case hS92 => (exact HS7.out)
            clear hK K
            try simp only [Act.put, List.setIfInBounds_toArray, List.set_cons_zero, List.set_cons_succ]
            refine wpAnyH_done (by kernel_rfl) ?_ _
            clear hHeld z1 z2
            go_wp2_with fail
            refine bodyPost_ret (v := .bool false) (by simp [results, Tryz.results76, go_sem]) rfl ⟨_, by rw [HLV.out], by rw [HLV.out]; exact HF6.out.1, HF6.out.2.1, HF6.out.2.2⟩
    | true =>
      by_cases hn0 : n = 0
      · have HLV : Hid (takeQ l c false m cm = (giveP l c, true)) := Lib.hid (by unfold takeQ; rw [hlv, HE.out, decide_eq_true hn0]; rfl)
        have hnb : ((n : Int) == 0) = true := by rw [beq_iff_eq]; omega
        clear hlv hn0
        go_wp2_with fail
        refine (HGI.out _ HB3.out).mono ?_
        rintro e w4 ⟨rfl, hg4, ht4⟩
        have HG4 := Lib.hid (And.intro hg4 ((Touch.of_below (S := fun k => k = b ∨ k = gh ∨ (Value.slice A n cap).ownBlock = some k) (HB1.out.trans (HB3.out.mono HB1.out.size))).trans ht4 (fun k _ e => e.elim .inl (fun e => .inr (.inl e)))))
        clear hg4 ht4 q0 q1 r1 r2
        go_wp2_with fail
        refine bodyPost_ret (v := .bool true) (by simp [results, Tryz.results76, go_sem]) rfl ⟨_, by rw [HLV.out], by rw [HLV.out]; exact HG4.out.1, HG4.out.2, .inl rfl⟩
      · have HLV : Hid (takeQ l c false m cm = ({ l with row := putAt l.row (placeP l false) c }, false)) := Lib.hid (by unfold takeQ; rw [hlv, HE.out, decide_eq_false hn0]; rfl)
        have hnb : ((n : Int) == 0) = false := by rw [beq_eq_false_iff_ne]; omega
        clear hlv hn0
        go_wp2_with fail
        refine wp_region_held_drew (S := fun W => W.cell? ⟨w.heap.size, 0, none⟩ = some (.int .i64 c.who) ∧ W.cell? ⟨w.heap.size, 1, none⟩ = some (.bool cm)) (by kernel_rfl) ⟨q0, q1⟩ (fun hHeld => ?_)
        refine wpAnyH_take (i := 0) (oi := { dst := some 41, op := Op.move (Operand.tmp 0), type := 71, pos := "lane.go:31", after := #[], guard := none }) (v := ?vv93) rfl (by kernel_rfl) (by kernel_rfl) (by kernel_rfl) (fun _ _ _ h => h) ?hy93 (by assumption) ?rest93
        case hy93 => (refine Or.inl ⟨by rfl, ?_⟩; intro W hSw; (try dsimp only at hSw); go_simp; (try with_reducible rfl))
        try simp only [Act.put, List.setIfInBounds_toArray, List.set_cons_zero, List.set_cons_succ]
        refine wpAnyH_take (i := 1) (oi := { dst := some 42, op := Op.move (Operand.tmp 0), type := 71, pos := "lane.go:31", after := #[], guard := none }) (v := ?vv94) rfl (by kernel_rfl) (by kernel_rfl) (by kernel_rfl) (fun _ _ _ h => h) ?hy94 (by assumption) ?rest94
        case hy94 => (refine Or.inl ⟨by rfl, ?_⟩; intro W hSw; (try dsimp only at hSw); go_simp; (try with_reducible rfl))
        try simp only [Act.put, List.setIfInBounds_toArray, List.set_cons_zero, List.set_cons_succ]
        refine wpAnyH_take (i := 2) (oi := { dst := some 43, op := Op.nilCheck (Operand.tmp 42), type := 0, pos := "lane.go:31", after := #[{ on := 1, ground := Ground.data }], guard := none }) (v := ?vv95) rfl (by kernel_rfl) (by kernel_rfl) (by kernel_rfl) (fun _ _ _ h => h) ?hy95 (by assumption) ?rest95
        case hy95 => (refine Or.inl ⟨by rfl, ?_⟩; intro W hSw; (try dsimp only at hSw); go_simp; (try with_reducible rfl))
        try simp only [Act.put, List.setIfInBounds_toArray, List.set_cons_zero, List.set_cons_succ]
        refine wpAnyH_take (i := 3) (oi := { dst := some 44, op := Op.fieldAddr 84 (Operand.tmp 43) 2, type := 0, pos := "lane.go:31", after := #[{ on := 2, ground := Ground.data }], guard := none }) (v := ?vv96) rfl (by kernel_rfl) (by kernel_rfl) (by kernel_rfl) (fun _ _ _ h => h) ?hy96 (by assumption) ?rest96
        case hy96 => (refine Or.inl ⟨by rfl, ?_⟩; intro W hSw; (try dsimp only at hSw); go_simp; (try with_reducible rfl))
        try simp only [Act.put, List.setIfInBounds_toArray, List.set_cons_zero, List.set_cons_succ]
        refine wpAnyH_take (i := 5) (oi := { dst := some 46, op := Op.move (Operand.tmp 0), type := 71, pos := "lane.go:31", after := #[], guard := none }) (v := ?vv97) rfl (by kernel_rfl) (by kernel_rfl) (by kernel_rfl) (fun _ _ _ h => h) ?hy97 (by assumption) ?rest97
        case hy97 => (refine Or.inl ⟨by rfl, ?_⟩; intro W hSw; (try dsimp only at hSw); go_simp; (try with_reducible rfl))
        try simp only [Act.put, List.setIfInBounds_toArray, List.set_cons_zero, List.set_cons_succ]
        refine wpAnyH_take (i := 6) (oi := { dst := some 47, op := Op.move (Operand.tmp 5), type := 4, pos := "lane.go:31", after := #[], guard := none }) (v := ?vv98) rfl (by kernel_rfl) (by kernel_rfl) (by kernel_rfl) (fun _ _ _ h => h) ?hy98 (by assumption) ?rest98
        case hy98 => (refine Or.inl ⟨by rfl, ?_⟩; intro W hSw; (try dsimp only at hSw); go_simp; (try with_reducible rfl))
        try simp only [Act.put, List.setIfInBounds_toArray, List.set_cons_zero, List.set_cons_succ]
        refine wpAnyH_take (i := 8) (oi := { dst := some 49, op := Op.load 106 (Operand.tmp 3), type := 106, pos := "lane.go:31", after := #[], guard := none }) (v := ?vv99) rfl (by kernel_rfl) (by kernel_rfl) (by kernel_rfl) (fun _ _ _ h => h) ?hy99 (by assumption) ?rest99
        case hy99 => (refine Or.inl ⟨by rfl, ?_⟩; intro W hSw; (try dsimp only at hSw); go_simp; (try with_reducible rfl))
        try simp only [Act.put, List.setIfInBounds_toArray, List.set_cons_zero, List.set_cons_succ]
        clear q0 q1 r1 r2
        obtain ⟨wD, hwD⟩ : ∃ wD, wD = w3.drew := ⟨_, rfl⟩
        rw [← hwD] at hHeld ⊢
        have HBX : Hid (Below w1.heap.size w1 wD) := Lib.hid (by rw [hwD]; exact below_drew HB3.out)
        clear hwD
        have k4 := (HC.out _ HBX.out).2.2.2
        refine wpAnyH_ready (rs := [4, 7, 9]) (by kernel_rfl) (by simp) ?_
        refine AllReadyH.cons (o := { dst := some 45, op := Op.load 82 (Operand.tmp 44), type := 82, pos := "lane.go:31", after := #[{ on := 3, ground := Ground.data }], guard := none }) rfl (fun K hK => ?step100) ?more100
        ((go_simp; go_wp2_with fail))
        refine hK.out _ _ ?hS100 (fun hHeld => ?rr100)
        case hS100 => (exact ⟨(HC.out _ HBX.out).1, (HC.out _ HBX.out).2.1⟩)
        clear hK K
        try simp only [Act.put, List.setIfInBounds_toArray, List.set_cons_zero, List.set_cons_succ]
        · clear k4
          refine wpAnyH_ready (rs := [7, 9]) (by kernel_rfl) (by simp) ?_
          refine AllReadyH.cons (o := { dst := some 48, op := Op.call { callee := Callee.value (Operand.func 106), args := #[Operand.tmp 46, Operand.tmp 47], argTypes := #[71, 4] }, type := 3, pos := "lane.go:31", after := #[{ on := 5, ground := Ground.data }, { on := 6, ground := Ground.data }], guard := none }) rfl (fun K hK => ?step101) ?more101
          ((go_simp; go_at_call 106; refine (HPL.out false _ HBX.out).mono ?_; rintro e w4 ⟨rfl, hb4⟩; go_wp2_with fail))
          refine hK.out _ _ ?hS101 (fun hHeld => ?rr101)
          case hS101 => (exact ⟨(HC.out _ (HBX.out.trans (hb4.mono HBX.out.size))).1, (HC.out _ (HBX.out.trans (hb4.mono HBX.out.size))).2.1⟩)
          clear hK K
          try simp only [Act.put, List.setIfInBounds_toArray, List.set_cons_zero, List.set_cons_succ]
          · have HBX := Lib.hid (HBX.out.trans (hb4.mono HBX.out.size))
            clear hb4
            refine wpAnyH_ready (rs := [9]) (by kernel_rfl) (by simp) ?_
            refine AllReadyH.cons (o := { dst := some 50, op := Op.buildSlice 82 1 #[(0, Operand.tmp 49)], type := 82, pos := "lane.go:31", after := #[{ on := 8, ground := Ground.data }], guard := none }) rfl (fun K hK => ?step102) ?more102
            case more102 => exact AllReadyH.nil
            ((go_simp; go_wp2_with fail))
            refine hK.out _ _ ?hS102 (fun hHeld => ?rr102)
            case hS102 => (exact ⟨(HC.out _ (HBX.out.trans ((below_new (w := w4) (.cells #[.int .i64 c.who, .bool cm] 106)).mono HBX.out.size))).1, (HC.out _ (HBX.out.trans ((below_new (w := w4) (.cells #[.int .i64 c.who, .bool cm] 106)).mono HBX.out.size))).2.1⟩)
            clear hK K
            try simp only [Act.put, List.setIfInBounds_toArray, List.set_cons_zero, List.set_cons_succ]
            have HBB := Lib.hid (And.intro HBX.out.size (alloc_at w4 (.cells #[.int .i64 c.who, .bool cm] 106)))
            have HBX := Lib.hid (HBX.out.trans ((below_new (w := w4) (.cells #[.int .i64 c.who, .bool cm] 106)).mono HBX.out.size))
            refine wpAnyH_ready (rs := [10]) (by kernel_rfl) (by simp) ?_
            refine AllReadyH.cons (o := { dst := some 51, op := Op.call { callee := Callee.value (Operand.func 105), args := #[Operand.tmp 45, Operand.tmp 48, Operand.tmp 50], argTypes := #[82, 3, 82] }, type := 82, pos := "lane.go:31", after := #[{ on := 4, ground := Ground.data }, { on := 7, ground := Ground.data }, { on := 9, ground := Ground.data }, { on := 7, ground := Ground.chain }], guard := none }) rfl (fun K hK => ?step103) ?more103
            case more103 => exact AllReadyH.nil
            ((go_simp; go_at_call 105; refine (HIN.out false _ _ HBX.out HBB.out.1 HBB.out.2).mono ?_; rintro e w6 ⟨A6, n6, c6, rfl, hr6, ho6, ht6⟩; go_wp2_with fail))
            refine hK.out _ _ ?hS103 (fun hHeld => ?rr103)
            case hS103 => (exact (HS6.out _ w6 undef HBX.out ht6).1)
            clear hK K
            try simp only [Act.put, List.setIfInBounds_toArray, List.set_cons_zero, List.set_cons_succ]
            have HF6 := Lib.hid (HFIN.out false _ w6 _ HBX.out hr6 ho6 ht6)
            have HS7 := Lib.hid (HS6.out _ w6 (.slice A6 n6 c6) HBX.out ht6).2.1
            have z1 := (HS6.out _ w6 undef HBX.out ht6).2.2.1
            have z2 := (HS6.out _ w6 undef HBX.out ht6).2.2.2
            clear hr6 ho6 ht6
            refine wpAnyH_take (i := 11) (oi := { dst := some 52, op := Op.nilCheck (Operand.tmp 41), type := 0, pos := "lane.go:31", after := #[{ on := 0, ground := Ground.data }, { on := 0, ground := Ground.phase }, { on := 1, ground := Ground.phase }, { on := 2, ground := Ground.phase }, { on := 3, ground := Ground.phase }, { on := 4, ground := Ground.phase }, { on := 5, ground := Ground.phase }, { on := 6, ground := Ground.phase }, { on := 7, ground := Ground.phase }, { on := 8, ground := Ground.phase }, { on := 9, ground := Ground.phase }, { on := 10, ground := Ground.phase }], guard := none }) (v := ?vv104) rfl (by kernel_rfl) (by kernel_rfl) (by kernel_rfl) (fun _ _ _ h => h) ?hy104 (by assumption) ?rest104
            case hy104 => (refine Or.inl ⟨by rfl, ?_⟩; intro W hSw; (try dsimp only at hSw); go_simp; (try with_reducible rfl))
            try simp only [Act.put, List.setIfInBounds_toArray, List.set_cons_zero, List.set_cons_succ]
            refine wpAnyH_take (i := 12) (oi := { dst := some 53, op := Op.fieldAddr 84 (Operand.tmp 52) 2, type := 0, pos := "lane.go:31", after := #[{ on := 11, ground := Ground.data }, { on := 0, ground := Ground.phase }, { on := 1, ground := Ground.phase }, { on := 2, ground := Ground.phase }, { on := 3, ground := Ground.phase }, { on := 4, ground := Ground.phase }, { on := 5, ground := Ground.phase }, { on := 6, ground := Ground.phase }, { on := 7, ground := Ground.phase }, { on := 8, ground := Ground.phase }, { on := 9, ground := Ground.phase }, { on := 10, ground := Ground.phase }], guard := none }) (v := ?vv105) rfl (by kernel_rfl) (by kernel_rfl) (by kernel_rfl) (fun _ _ _ h => h) ?hy105 (by assumption) ?rest105
            case hy105 => (refine Or.inl ⟨by rfl, ?_⟩; intro W hSw; (try dsimp only at hSw); go_simp; (try with_reducible rfl))
            try simp only [Act.put, List.setIfInBounds_toArray, List.set_cons_zero, List.set_cons_succ]
            refine wpAnyH_ready (rs := [13]) (by kernel_rfl) (by simp) ?_
            refine AllReadyH.cons (o := { dst := none, op := Op.store 82 (Operand.tmp 53) (Operand.tmp 51), type := 0, pos := "lane.go:31", after := #[{ on := 12, ground := Ground.data }, { on := 10, ground := Ground.data }, { on := 10, ground := Ground.chain }, { on := 0, ground := Ground.phase }, { on := 1, ground := Ground.phase }, { on := 2, ground := Ground.phase }, { on := 3, ground := Ground.phase }, { on := 4, ground := Ground.phase }, { on := 5, ground := Ground.phase }, { on := 6, ground := Ground.phase }, { on := 7, ground := Ground.phase }, { on := 8, ground := Ground.phase }, { on := 9, ground := Ground.phase }, { on := 10, ground := Ground.phase }], guard := none }) rfl (fun K hK => ?step106) ?more106
            case more106 => exact AllReadyH.nil
            ((go_simp; go_wp2_with fail))
            refine hK.out _ _ ?hS106 (fun hHeld => ?rr106)
            case hS106 => (exact HS7.out)
            clear hK K
            try simp only [Act.put, List.setIfInBounds_toArray, List.set_cons_zero, List.set_cons_succ]
            refine wpAnyH_done (by kernel_rfl) ?_ _
            clear hHeld z1 z2
            go_wp2_with fail
            refine bodyPost_ret (v := .bool false) (by simp [results, Tryz.results76, go_sem]) rfl ⟨_, by rw [HLV.out], by rw [HLV.out]; exact HF6.out.1, HF6.out.2.1, HF6.out.2.2⟩
          · skip
            refine AllReadyH.cons (o := { dst := some 50, op := Op.buildSlice 82 1 #[(0, Operand.tmp 49)], type := 82, pos := "lane.go:31", after := #[{ on := 8, ground := Ground.data }], guard := none }) rfl (fun K hK => ?step107) ?more107
            case more107 => exact AllReadyH.nil
            ((go_simp; go_wp2_with fail))
            refine hK.out _ _ ?hS107 (fun hHeld => ?rr107)
            case hS107 => (exact ⟨(HC.out _ (HBX.out.trans ((below_new (w := wD) (.cells #[.int .i64 c.who, .bool cm] 106)).mono HBX.out.size))).1, (HC.out _ (HBX.out.trans ((below_new (w := wD) (.cells #[.int .i64 c.who, .bool cm] 106)).mono HBX.out.size))).2.1⟩)
            clear hK K
            try simp only [Act.put, List.setIfInBounds_toArray, List.set_cons_zero, List.set_cons_succ]
            have HBB := Lib.hid (And.intro HBX.out.size (alloc_at wD (.cells #[.int .i64 c.who, .bool cm] 106)))
            have HBX := Lib.hid (HBX.out.trans ((below_new (w := wD) (.cells #[.int .i64 c.who, .bool cm] 106)).mono HBX.out.size))
            refine wpAnyH_ready (rs := [7]) (by kernel_rfl) (by simp) ?_
            refine AllReadyH.cons (o := { dst := some 48, op := Op.call { callee := Callee.value (Operand.func 106), args := #[Operand.tmp 46, Operand.tmp 47], argTypes := #[71, 4] }, type := 3, pos := "lane.go:31", after := #[{ on := 5, ground := Ground.data }, { on := 6, ground := Ground.data }], guard := none }) rfl (fun K hK => ?step108) ?more108
            case more108 => exact AllReadyH.nil
            ((go_simp; go_at_call 106; refine (HPL.out false _ HBX.out).mono ?_; rintro e w4 ⟨rfl, hb4⟩; go_wp2_with fail))
            refine hK.out _ _ ?hS108 (fun hHeld => ?rr108)
            case hS108 => (exact ⟨(HC.out _ (HBX.out.trans (hb4.mono HBX.out.size))).1, (HC.out _ (HBX.out.trans (hb4.mono HBX.out.size))).2.1⟩)
            clear hK K
            try simp only [Act.put, List.setIfInBounds_toArray, List.set_cons_zero, List.set_cons_succ]
            have HBB := Lib.hid (And.intro HBB.out.1 ((hb4.block _ (heap_lt HBB.out.2)).trans HBB.out.2))
            have HBX := Lib.hid (HBX.out.trans (hb4.mono HBX.out.size))
            clear hb4
            refine wpAnyH_ready (rs := [10]) (by kernel_rfl) (by simp) ?_
            refine AllReadyH.cons (o := { dst := some 51, op := Op.call { callee := Callee.value (Operand.func 105), args := #[Operand.tmp 45, Operand.tmp 48, Operand.tmp 50], argTypes := #[82, 3, 82] }, type := 82, pos := "lane.go:31", after := #[{ on := 4, ground := Ground.data }, { on := 7, ground := Ground.data }, { on := 9, ground := Ground.data }, { on := 7, ground := Ground.chain }], guard := none }) rfl (fun K hK => ?step109) ?more109
            case more109 => exact AllReadyH.nil
            ((go_simp; go_at_call 105; refine (HIN.out false _ _ HBX.out HBB.out.1 HBB.out.2).mono ?_; rintro e w6 ⟨A6, n6, c6, rfl, hr6, ho6, ht6⟩; go_wp2_with fail))
            refine hK.out _ _ ?hS109 (fun hHeld => ?rr109)
            case hS109 => (exact (HS6.out _ w6 undef HBX.out ht6).1)
            clear hK K
            try simp only [Act.put, List.setIfInBounds_toArray, List.set_cons_zero, List.set_cons_succ]
            have HF6 := Lib.hid (HFIN.out false _ w6 _ HBX.out hr6 ho6 ht6)
            have HS7 := Lib.hid (HS6.out _ w6 (.slice A6 n6 c6) HBX.out ht6).2.1
            have z1 := (HS6.out _ w6 undef HBX.out ht6).2.2.1
            have z2 := (HS6.out _ w6 undef HBX.out ht6).2.2.2
            clear hr6 ho6 ht6
            refine wpAnyH_take (i := 11) (oi := { dst := some 52, op := Op.nilCheck (Operand.tmp 41), type := 0, pos := "lane.go:31", after := #[{ on := 0, ground := Ground.data }, { on := 0, ground := Ground.phase }, { on := 1, ground := Ground.phase }, { on := 2, ground := Ground.phase }, { on := 3, ground := Ground.phase }, { on := 4, ground := Ground.phase }, { on := 5, ground := Ground.phase }, { on := 6, ground := Ground.phase }, { on := 7, ground := Ground.phase }, { on := 8, ground := Ground.phase }, { on := 9, ground := Ground.phase }, { on := 10, ground := Ground.phase }], guard := none }) (v := ?vv110) rfl (by kernel_rfl) (by kernel_rfl) (by kernel_rfl) (fun _ _ _ h => h) ?hy110 (by assumption) ?rest110
            case hy110 => (refine Or.inl ⟨by rfl, ?_⟩; intro W hSw; (try dsimp only at hSw); go_simp; (try with_reducible rfl))
            try simp only [Act.put, List.setIfInBounds_toArray, List.set_cons_zero, List.set_cons_succ]
            refine wpAnyH_take (i := 12) (oi := { dst := some 53, op := Op.fieldAddr 84 (Operand.tmp 52) 2, type := 0, pos := "lane.go:31", after := #[{ on := 11, ground := Ground.data }, { on := 0, ground := Ground.phase }, { on := 1, ground := Ground.phase }, { on := 2, ground := Ground.phase }, { on := 3, ground := Ground.phase }, { on := 4, ground := Ground.phase }, { on := 5, ground := Ground.phase }, { on := 6, ground := Ground.phase }, { on := 7, ground := Ground.phase }, { on := 8, ground := Ground.phase }, { on := 9, ground := Ground.phase }, { on := 10, ground := Ground.phase }], guard := none }) (v := ?vv111) rfl (by kernel_rfl) (by kernel_rfl) (by kernel_rfl) (fun _ _ _ h => h) ?hy111 (by assumption) ?rest111
            case hy111 => (refine Or.inl ⟨by rfl, ?_⟩; intro W hSw; (try dsimp only at hSw); go_simp; (try with_reducible rfl))
            try simp only [Act.put, List.setIfInBounds_toArray, List.set_cons_zero, List.set_cons_succ]
            refine wpAnyH_ready (rs := [13]) (by kernel_rfl) (by simp) ?_
            refine AllReadyH.cons (o := { dst := none, op := Op.store 82 (Operand.tmp 53) (Operand.tmp 51), type := 0, pos := "lane.go:31", after := #[{ on := 12, ground := Ground.data }, { on := 10, ground := Ground.data }, { on := 10, ground := Ground.chain }, { on := 0, ground := Ground.phase }, { on := 1, ground := Ground.phase }, { on := 2, ground := Ground.phase }, { on := 3, ground := Ground.phase }, { on := 4, ground := Ground.phase }, { on := 5, ground := Ground.phase }, { on := 6, ground := Ground.phase }, { on := 7, ground := Ground.phase }, { on := 8, ground := Ground.phase }, { on := 9, ground := Ground.phase }, { on := 10, ground := Ground.phase }], guard := none }) rfl (fun K hK => ?step112) ?more112
            case more112 => exact AllReadyH.nil
            ((go_simp; go_wp2_with fail))
            refine hK.out _ _ ?hS112 (fun hHeld => ?rr112)
            case hS112 => (exact HS7.out)
            clear hK K
            try simp only [Act.put, List.setIfInBounds_toArray, List.set_cons_zero, List.set_cons_succ]
            refine wpAnyH_done (by kernel_rfl) ?_ _
            clear hHeld z1 z2
            go_wp2_with fail
            refine bodyPost_ret (v := .bool false) (by simp [results, Tryz.results76, go_sem]) rfl ⟨_, by rw [HLV.out], by rw [HLV.out]; exact HF6.out.1, HF6.out.2.1, HF6.out.2.2⟩
        · skip
          refine AllReadyH.cons (o := { dst := some 48, op := Op.call { callee := Callee.value (Operand.func 106), args := #[Operand.tmp 46, Operand.tmp 47], argTypes := #[71, 4] }, type := 3, pos := "lane.go:31", after := #[{ on := 5, ground := Ground.data }, { on := 6, ground := Ground.data }], guard := none }) rfl (fun K hK => ?step113) ?more113
          ((go_simp; go_at_call 106; refine (HPL.out false _ HBX.out).mono ?_; rintro e w4 ⟨rfl, hb4⟩; go_wp2_with fail))
          refine hK.out _ _ ?hS113 (fun hHeld => ?rr113)
          case hS113 => (exact ⟨(HC.out _ (HBX.out.trans (hb4.mono HBX.out.size))).1, (HC.out _ (HBX.out.trans (hb4.mono HBX.out.size))).2.1⟩)
          clear hK K
          try simp only [Act.put, List.setIfInBounds_toArray, List.set_cons_zero, List.set_cons_succ]
          · have HBX := Lib.hid (HBX.out.trans (hb4.mono HBX.out.size))
            clear hb4
            clear k4
            have k4 := (HC.out _ HBX.out).2.2.2
            refine wpAnyH_ready (rs := [4, 9]) (by kernel_rfl) (by simp) ?_
            refine AllReadyH.cons (o := { dst := some 45, op := Op.load 82 (Operand.tmp 44), type := 82, pos := "lane.go:31", after := #[{ on := 3, ground := Ground.data }], guard := none }) rfl (fun K hK => ?step114) ?more114
            ((go_simp; go_wp2_with fail))
            refine hK.out _ _ ?hS114 (fun hHeld => ?rr114)
            case hS114 => (exact ⟨(HC.out _ HBX.out).1, (HC.out _ HBX.out).2.1⟩)
            clear hK K
            try simp only [Act.put, List.setIfInBounds_toArray, List.set_cons_zero, List.set_cons_succ]
            · clear k4
              refine wpAnyH_ready (rs := [9]) (by kernel_rfl) (by simp) ?_
              refine AllReadyH.cons (o := { dst := some 50, op := Op.buildSlice 82 1 #[(0, Operand.tmp 49)], type := 82, pos := "lane.go:31", after := #[{ on := 8, ground := Ground.data }], guard := none }) rfl (fun K hK => ?step115) ?more115
              case more115 => exact AllReadyH.nil
              ((go_simp; go_wp2_with fail))
              refine hK.out _ _ ?hS115 (fun hHeld => ?rr115)
              case hS115 => (exact ⟨(HC.out _ (HBX.out.trans ((below_new (w := w4) (.cells #[.int .i64 c.who, .bool cm] 106)).mono HBX.out.size))).1, (HC.out _ (HBX.out.trans ((below_new (w := w4) (.cells #[.int .i64 c.who, .bool cm] 106)).mono HBX.out.size))).2.1⟩)
              clear hK K
              try simp only [Act.put, List.setIfInBounds_toArray, List.set_cons_zero, List.set_cons_succ]
              have HBB := Lib.hid (And.intro HBX.out.size (alloc_at w4 (.cells #[.int .i64 c.who, .bool cm] 106)))
              have HBX := Lib.hid (HBX.out.trans ((below_new (w := w4) (.cells #[.int .i64 c.who, .bool cm] 106)).mono HBX.out.size))
              refine wpAnyH_ready (rs := [10]) (by kernel_rfl) (by simp) ?_
              refine AllReadyH.cons (o := { dst := some 51, op := Op.call { callee := Callee.value (Operand.func 105), args := #[Operand.tmp 45, Operand.tmp 48, Operand.tmp 50], argTypes := #[82, 3, 82] }, type := 82, pos := "lane.go:31", after := #[{ on := 4, ground := Ground.data }, { on := 7, ground := Ground.data }, { on := 9, ground := Ground.data }, { on := 7, ground := Ground.chain }], guard := none }) rfl (fun K hK => ?step116) ?more116
              case more116 => exact AllReadyH.nil
              ((go_simp; go_at_call 105; refine (HIN.out false _ _ HBX.out HBB.out.1 HBB.out.2).mono ?_; rintro e w6 ⟨A6, n6, c6, rfl, hr6, ho6, ht6⟩; go_wp2_with fail))
              refine hK.out _ _ ?hS116 (fun hHeld => ?rr116)
              case hS116 => (exact (HS6.out _ w6 undef HBX.out ht6).1)
              clear hK K
              try simp only [Act.put, List.setIfInBounds_toArray, List.set_cons_zero, List.set_cons_succ]
              have HF6 := Lib.hid (HFIN.out false _ w6 _ HBX.out hr6 ho6 ht6)
              have HS7 := Lib.hid (HS6.out _ w6 (.slice A6 n6 c6) HBX.out ht6).2.1
              have z1 := (HS6.out _ w6 undef HBX.out ht6).2.2.1
              have z2 := (HS6.out _ w6 undef HBX.out ht6).2.2.2
              clear hr6 ho6 ht6
              refine wpAnyH_take (i := 11) (oi := { dst := some 52, op := Op.nilCheck (Operand.tmp 41), type := 0, pos := "lane.go:31", after := #[{ on := 0, ground := Ground.data }, { on := 0, ground := Ground.phase }, { on := 1, ground := Ground.phase }, { on := 2, ground := Ground.phase }, { on := 3, ground := Ground.phase }, { on := 4, ground := Ground.phase }, { on := 5, ground := Ground.phase }, { on := 6, ground := Ground.phase }, { on := 7, ground := Ground.phase }, { on := 8, ground := Ground.phase }, { on := 9, ground := Ground.phase }, { on := 10, ground := Ground.phase }], guard := none }) (v := ?vv117) rfl (by kernel_rfl) (by kernel_rfl) (by kernel_rfl) (fun _ _ _ h => h) ?hy117 (by assumption) ?rest117
              case hy117 => (refine Or.inl ⟨by rfl, ?_⟩; intro W hSw; (try dsimp only at hSw); go_simp; (try with_reducible rfl))
              try simp only [Act.put, List.setIfInBounds_toArray, List.set_cons_zero, List.set_cons_succ]
              refine wpAnyH_take (i := 12) (oi := { dst := some 53, op := Op.fieldAddr 84 (Operand.tmp 52) 2, type := 0, pos := "lane.go:31", after := #[{ on := 11, ground := Ground.data }, { on := 0, ground := Ground.phase }, { on := 1, ground := Ground.phase }, { on := 2, ground := Ground.phase }, { on := 3, ground := Ground.phase }, { on := 4, ground := Ground.phase }, { on := 5, ground := Ground.phase }, { on := 6, ground := Ground.phase }, { on := 7, ground := Ground.phase }, { on := 8, ground := Ground.phase }, { on := 9, ground := Ground.phase }, { on := 10, ground := Ground.phase }], guard := none }) (v := ?vv118) rfl (by kernel_rfl) (by kernel_rfl) (by kernel_rfl) (fun _ _ _ h => h) ?hy118 (by assumption) ?rest118
              case hy118 => (refine Or.inl ⟨by rfl, ?_⟩; intro W hSw; (try dsimp only at hSw); go_simp; (try with_reducible rfl))
              try simp only [Act.put, List.setIfInBounds_toArray, List.set_cons_zero, List.set_cons_succ]
              refine wpAnyH_ready (rs := [13]) (by kernel_rfl) (by simp) ?_
              refine AllReadyH.cons (o := { dst := none, op := Op.store 82 (Operand.tmp 53) (Operand.tmp 51), type := 0, pos := "lane.go:31", after := #[{ on := 12, ground := Ground.data }, { on := 10, ground := Ground.data }, { on := 10, ground := Ground.chain }, { on := 0, ground := Ground.phase }, { on := 1, ground := Ground.phase }, { on := 2, ground := Ground.phase }, { on := 3, ground := Ground.phase }, { on := 4, ground := Ground.phase }, { on := 5, ground := Ground.phase }, { on := 6, ground := Ground.phase }, { on := 7, ground := Ground.phase }, { on := 8, ground := Ground.phase }, { on := 9, ground := Ground.phase }, { on := 10, ground := Ground.phase }], guard := none }) rfl (fun K hK => ?step119) ?more119
              case more119 => exact AllReadyH.nil
              ((go_simp; go_wp2_with fail))
              refine hK.out _ _ ?hS119 (fun hHeld => ?rr119)
              case hS119 => (exact HS7.out)
              clear hK K
              try simp only [Act.put, List.setIfInBounds_toArray, List.set_cons_zero, List.set_cons_succ]
              refine wpAnyH_done (by kernel_rfl) ?_ _
              clear hHeld z1 z2
              go_wp2_with fail
              refine bodyPost_ret (v := .bool false) (by simp [results, Tryz.results76, go_sem]) rfl ⟨_, by rw [HLV.out], by rw [HLV.out]; exact HF6.out.1, HF6.out.2.1, HF6.out.2.2⟩
            · skip
              refine AllReadyH.cons (o := { dst := some 50, op := Op.buildSlice 82 1 #[(0, Operand.tmp 49)], type := 82, pos := "lane.go:31", after := #[{ on := 8, ground := Ground.data }], guard := none }) rfl (fun K hK => ?step120) ?more120
              case more120 => exact AllReadyH.nil
              ((go_simp; go_wp2_with fail))
              refine hK.out _ _ ?hS120 (fun hHeld => ?rr120)
              case hS120 => (exact ⟨(HC.out _ (HBX.out.trans ((below_new (w := w4) (.cells #[.int .i64 c.who, .bool cm] 106)).mono HBX.out.size))).1, (HC.out _ (HBX.out.trans ((below_new (w := w4) (.cells #[.int .i64 c.who, .bool cm] 106)).mono HBX.out.size))).2.1⟩)
              clear hK K
              try simp only [Act.put, List.setIfInBounds_toArray, List.set_cons_zero, List.set_cons_succ]
              have HBB := Lib.hid (And.intro HBX.out.size (alloc_at w4 (.cells #[.int .i64 c.who, .bool cm] 106)))
              have HBX := Lib.hid (HBX.out.trans ((below_new (w := w4) (.cells #[.int .i64 c.who, .bool cm] 106)).mono HBX.out.size))
              clear k4
              have k4 := (HC.out _ HBX.out).2.2.2
              refine wpAnyH_ready (rs := [4]) (by kernel_rfl) (by simp) ?_
              refine AllReadyH.cons (o := { dst := some 45, op := Op.load 82 (Operand.tmp 44), type := 82, pos := "lane.go:31", after := #[{ on := 3, ground := Ground.data }], guard := none }) rfl (fun K hK => ?step121) ?more121
              case more121 => exact AllReadyH.nil
              ((go_simp; go_wp2_with fail))
              refine hK.out _ _ ?hS121 (fun hHeld => ?rr121)
              case hS121 => (exact ⟨(HC.out _ HBX.out).1, (HC.out _ HBX.out).2.1⟩)
              clear hK K
              try simp only [Act.put, List.setIfInBounds_toArray, List.set_cons_zero, List.set_cons_succ]
              clear k4
              refine wpAnyH_ready (rs := [10]) (by kernel_rfl) (by simp) ?_
              refine AllReadyH.cons (o := { dst := some 51, op := Op.call { callee := Callee.value (Operand.func 105), args := #[Operand.tmp 45, Operand.tmp 48, Operand.tmp 50], argTypes := #[82, 3, 82] }, type := 82, pos := "lane.go:31", after := #[{ on := 4, ground := Ground.data }, { on := 7, ground := Ground.data }, { on := 9, ground := Ground.data }, { on := 7, ground := Ground.chain }], guard := none }) rfl (fun K hK => ?step122) ?more122
              case more122 => exact AllReadyH.nil
              ((go_simp; go_at_call 105; refine (HIN.out false _ _ HBX.out HBB.out.1 HBB.out.2).mono ?_; rintro e w6 ⟨A6, n6, c6, rfl, hr6, ho6, ht6⟩; go_wp2_with fail))
              refine hK.out _ _ ?hS122 (fun hHeld => ?rr122)
              case hS122 => (exact (HS6.out _ w6 undef HBX.out ht6).1)
              clear hK K
              try simp only [Act.put, List.setIfInBounds_toArray, List.set_cons_zero, List.set_cons_succ]
              have HF6 := Lib.hid (HFIN.out false _ w6 _ HBX.out hr6 ho6 ht6)
              have HS7 := Lib.hid (HS6.out _ w6 (.slice A6 n6 c6) HBX.out ht6).2.1
              have z1 := (HS6.out _ w6 undef HBX.out ht6).2.2.1
              have z2 := (HS6.out _ w6 undef HBX.out ht6).2.2.2
              clear hr6 ho6 ht6
              refine wpAnyH_take (i := 11) (oi := { dst := some 52, op := Op.nilCheck (Operand.tmp 41), type := 0, pos := "lane.go:31", after := #[{ on := 0, ground := Ground.data }, { on := 0, ground := Ground.phase }, { on := 1, ground := Ground.phase }, { on := 2, ground := Ground.phase }, { on := 3, ground := Ground.phase }, { on := 4, ground := Ground.phase }, { on := 5, ground := Ground.phase }, { on := 6, ground := Ground.phase }, { on := 7, ground := Ground.phase }, { on := 8, ground := Ground.phase }, { on := 9, ground := Ground.phase }, { on := 10, ground := Ground.phase }], guard := none }) (v := ?vv123) rfl (by kernel_rfl) (by kernel_rfl) (by kernel_rfl) (fun _ _ _ h => h) ?hy123 (by assumption) ?rest123
              case hy123 => (refine Or.inl ⟨by rfl, ?_⟩; intro W hSw; (try dsimp only at hSw); go_simp; (try with_reducible rfl))
              try simp only [Act.put, List.setIfInBounds_toArray, List.set_cons_zero, List.set_cons_succ]
              refine wpAnyH_take (i := 12) (oi := { dst := some 53, op := Op.fieldAddr 84 (Operand.tmp 52) 2, type := 0, pos := "lane.go:31", after := #[{ on := 11, ground := Ground.data }, { on := 0, ground := Ground.phase }, { on := 1, ground := Ground.phase }, { on := 2, ground := Ground.phase }, { on := 3, ground := Ground.phase }, { on := 4, ground := Ground.phase }, { on := 5, ground := Ground.phase }, { on := 6, ground := Ground.phase }, { on := 7, ground := Ground.phase }, { on := 8, ground := Ground.phase }, { on := 9, ground := Ground.phase }, { on := 10, ground := Ground.phase }], guard := none }) (v := ?vv124) rfl (by kernel_rfl) (by kernel_rfl) (by kernel_rfl) (fun _ _ _ h => h) ?hy124 (by assumption) ?rest124
              case hy124 => (refine Or.inl ⟨by rfl, ?_⟩; intro W hSw; (try dsimp only at hSw); go_simp; (try with_reducible rfl))
              try simp only [Act.put, List.setIfInBounds_toArray, List.set_cons_zero, List.set_cons_succ]
              refine wpAnyH_ready (rs := [13]) (by kernel_rfl) (by simp) ?_
              refine AllReadyH.cons (o := { dst := none, op := Op.store 82 (Operand.tmp 53) (Operand.tmp 51), type := 0, pos := "lane.go:31", after := #[{ on := 12, ground := Ground.data }, { on := 10, ground := Ground.data }, { on := 10, ground := Ground.chain }, { on := 0, ground := Ground.phase }, { on := 1, ground := Ground.phase }, { on := 2, ground := Ground.phase }, { on := 3, ground := Ground.phase }, { on := 4, ground := Ground.phase }, { on := 5, ground := Ground.phase }, { on := 6, ground := Ground.phase }, { on := 7, ground := Ground.phase }, { on := 8, ground := Ground.phase }, { on := 9, ground := Ground.phase }, { on := 10, ground := Ground.phase }], guard := none }) rfl (fun K hK => ?step125) ?more125
              case more125 => exact AllReadyH.nil
              ((go_simp; go_wp2_with fail))
              refine hK.out _ _ ?hS125 (fun hHeld => ?rr125)
              case hS125 => (exact HS7.out)
              clear hK K
              try simp only [Act.put, List.setIfInBounds_toArray, List.set_cons_zero, List.set_cons_succ]
              refine wpAnyH_done (by kernel_rfl) ?_ _
              clear hHeld z1 z2
              go_wp2_with fail
              refine bodyPost_ret (v := .bool false) (by simp [results, Tryz.results76, go_sem]) rfl ⟨_, by rw [HLV.out], by rw [HLV.out]; exact HF6.out.1, HF6.out.2.1, HF6.out.2.2⟩
          · skip
            refine AllReadyH.cons (o := { dst := some 50, op := Op.buildSlice 82 1 #[(0, Operand.tmp 49)], type := 82, pos := "lane.go:31", after := #[{ on := 8, ground := Ground.data }], guard := none }) rfl (fun K hK => ?step126) ?more126
            case more126 => exact AllReadyH.nil
            ((go_simp; go_wp2_with fail))
            refine hK.out _ _ ?hS126 (fun hHeld => ?rr126)
            case hS126 => (exact ⟨(HC.out _ (HBX.out.trans ((below_new (w := wD) (.cells #[.int .i64 c.who, .bool cm] 106)).mono HBX.out.size))).1, (HC.out _ (HBX.out.trans ((below_new (w := wD) (.cells #[.int .i64 c.who, .bool cm] 106)).mono HBX.out.size))).2.1⟩)
            clear hK K
            try simp only [Act.put, List.setIfInBounds_toArray, List.set_cons_zero, List.set_cons_succ]
            have HBB := Lib.hid (And.intro HBX.out.size (alloc_at wD (.cells #[.int .i64 c.who, .bool cm] 106)))
            have HBX := Lib.hid (HBX.out.trans ((below_new (w := wD) (.cells #[.int .i64 c.who, .bool cm] 106)).mono HBX.out.size))
            clear k4
            have k4 := (HC.out _ HBX.out).2.2.2
            refine wpAnyH_ready (rs := [4, 7]) (by kernel_rfl) (by simp) ?_
            refine AllReadyH.cons (o := { dst := some 45, op := Op.load 82 (Operand.tmp 44), type := 82, pos := "lane.go:31", after := #[{ on := 3, ground := Ground.data }], guard := none }) rfl (fun K hK => ?step127) ?more127
            ((go_simp; go_wp2_with fail))
            refine hK.out _ _ ?hS127 (fun hHeld => ?rr127)
            case hS127 => (exact ⟨(HC.out _ HBX.out).1, (HC.out _ HBX.out).2.1⟩)
            clear hK K
            try simp only [Act.put, List.setIfInBounds_toArray, List.set_cons_zero, List.set_cons_succ]
            · clear k4
              refine wpAnyH_ready (rs := [7]) (by kernel_rfl) (by simp) ?_
              refine AllReadyH.cons (o := { dst := some 48, op := Op.call { callee := Callee.value (Operand.func 106), args := #[Operand.tmp 46, Operand.tmp 47], argTypes := #[71, 4] }, type := 3, pos := "lane.go:31", after := #[{ on := 5, ground := Ground.data }, { on := 6, ground := Ground.data }], guard := none }) rfl (fun K hK => ?step128) ?more128
              case more128 => exact AllReadyH.nil
              ((go_simp; go_at_call 106; refine (HPL.out false _ HBX.out).mono ?_; rintro e w4 ⟨rfl, hb4⟩; go_wp2_with fail))
              refine hK.out _ _ ?hS128 (fun hHeld => ?rr128)
              case hS128 => (exact ⟨(HC.out _ (HBX.out.trans (hb4.mono HBX.out.size))).1, (HC.out _ (HBX.out.trans (hb4.mono HBX.out.size))).2.1⟩)
              clear hK K
              try simp only [Act.put, List.setIfInBounds_toArray, List.set_cons_zero, List.set_cons_succ]
              have HBB := Lib.hid (And.intro HBB.out.1 ((hb4.block _ (heap_lt HBB.out.2)).trans HBB.out.2))
              have HBX := Lib.hid (HBX.out.trans (hb4.mono HBX.out.size))
              clear hb4
              refine wpAnyH_ready (rs := [10]) (by kernel_rfl) (by simp) ?_
              refine AllReadyH.cons (o := { dst := some 51, op := Op.call { callee := Callee.value (Operand.func 105), args := #[Operand.tmp 45, Operand.tmp 48, Operand.tmp 50], argTypes := #[82, 3, 82] }, type := 82, pos := "lane.go:31", after := #[{ on := 4, ground := Ground.data }, { on := 7, ground := Ground.data }, { on := 9, ground := Ground.data }, { on := 7, ground := Ground.chain }], guard := none }) rfl (fun K hK => ?step129) ?more129
              case more129 => exact AllReadyH.nil
              ((go_simp; go_at_call 105; refine (HIN.out false _ _ HBX.out HBB.out.1 HBB.out.2).mono ?_; rintro e w6 ⟨A6, n6, c6, rfl, hr6, ho6, ht6⟩; go_wp2_with fail))
              refine hK.out _ _ ?hS129 (fun hHeld => ?rr129)
              case hS129 => (exact (HS6.out _ w6 undef HBX.out ht6).1)
              clear hK K
              try simp only [Act.put, List.setIfInBounds_toArray, List.set_cons_zero, List.set_cons_succ]
              have HF6 := Lib.hid (HFIN.out false _ w6 _ HBX.out hr6 ho6 ht6)
              have HS7 := Lib.hid (HS6.out _ w6 (.slice A6 n6 c6) HBX.out ht6).2.1
              have z1 := (HS6.out _ w6 undef HBX.out ht6).2.2.1
              have z2 := (HS6.out _ w6 undef HBX.out ht6).2.2.2
              clear hr6 ho6 ht6
              refine wpAnyH_take (i := 11) (oi := { dst := some 52, op := Op.nilCheck (Operand.tmp 41), type := 0, pos := "lane.go:31", after := #[{ on := 0, ground := Ground.data }, { on := 0, ground := Ground.phase }, { on := 1, ground := Ground.phase }, { on := 2, ground := Ground.phase }, { on := 3, ground := Ground.phase }, { on := 4, ground := Ground.phase }, { on := 5, ground := Ground.phase }, { on := 6, ground := Ground.phase }, { on := 7, ground := Ground.phase }, { on := 8, ground := Ground.phase }, { on := 9, ground := Ground.phase }, { on := 10, ground := Ground.phase }], guard := none }) (v := ?vv130) rfl (by kernel_rfl) (by kernel_rfl) (by kernel_rfl) (fun _ _ _ h => h) ?hy130 (by assumption) ?rest130
              case hy130 => (refine Or.inl ⟨by rfl, ?_⟩; intro W hSw; (try dsimp only at hSw); go_simp; (try with_reducible rfl))
              try simp only [Act.put, List.setIfInBounds_toArray, List.set_cons_zero, List.set_cons_succ]
              refine wpAnyH_take (i := 12) (oi := { dst := some 53, op := Op.fieldAddr 84 (Operand.tmp 52) 2, type := 0, pos := "lane.go:31", after := #[{ on := 11, ground := Ground.data }, { on := 0, ground := Ground.phase }, { on := 1, ground := Ground.phase }, { on := 2, ground := Ground.phase }, { on := 3, ground := Ground.phase }, { on := 4, ground := Ground.phase }, { on := 5, ground := Ground.phase }, { on := 6, ground := Ground.phase }, { on := 7, ground := Ground.phase }, { on := 8, ground := Ground.phase }, { on := 9, ground := Ground.phase }, { on := 10, ground := Ground.phase }], guard := none }) (v := ?vv131) rfl (by kernel_rfl) (by kernel_rfl) (by kernel_rfl) (fun _ _ _ h => h) ?hy131 (by assumption) ?rest131
              case hy131 => (refine Or.inl ⟨by rfl, ?_⟩; intro W hSw; (try dsimp only at hSw); go_simp; (try with_reducible rfl))
              try simp only [Act.put, List.setIfInBounds_toArray, List.set_cons_zero, List.set_cons_succ]
              refine wpAnyH_ready (rs := [13]) (by kernel_rfl) (by simp) ?_
              refine AllReadyH.cons (o := { dst := none, op := Op.store 82 (Operand.tmp 53) (Operand.tmp 51), type := 0, pos := "lane.go:31", after := #[{ on := 12, ground := Ground.data }, { on := 10, ground := Ground.data }, { on := 10, ground := Ground.chain }, { on := 0, ground := Ground.phase }, { on := 1, ground := Ground.phase }, { on := 2, ground := Ground.phase }, { on := 3, ground := Ground.phase }, { on := 4, ground := Ground.phase }, { on := 5, ground := Ground.phase }, { on := 6, ground := Ground.phase }, { on := 7, ground := Ground.phase }, { on := 8, ground := Ground.phase }, { on := 9, ground := Ground.phase }, { on := 10, ground := Ground.phase }], guard := none }) rfl (fun K hK => ?step132) ?more132
              case more132 => exact AllReadyH.nil
              ((go_simp; go_wp2_with fail))
              refine hK.out _ _ ?hS132 (fun hHeld => ?rr132)
              case hS132 => (exact HS7.out)
              clear hK K
              try simp only [Act.put, List.setIfInBounds_toArray, List.set_cons_zero, List.set_cons_succ]
              refine wpAnyH_done (by kernel_rfl) ?_ _
              clear hHeld z1 z2
              go_wp2_with fail
              refine bodyPost_ret (v := .bool false) (by simp [results, Tryz.results76, go_sem]) rfl ⟨_, by rw [HLV.out], by rw [HLV.out]; exact HF6.out.1, HF6.out.2.1, HF6.out.2.2⟩
            · skip
              refine AllReadyH.cons (o := { dst := some 48, op := Op.call { callee := Callee.value (Operand.func 106), args := #[Operand.tmp 46, Operand.tmp 47], argTypes := #[71, 4] }, type := 3, pos := "lane.go:31", after := #[{ on := 5, ground := Ground.data }, { on := 6, ground := Ground.data }], guard := none }) rfl (fun K hK => ?step133) ?more133
              case more133 => exact AllReadyH.nil
              ((go_simp; go_at_call 106; refine (HPL.out false _ HBX.out).mono ?_; rintro e w4 ⟨rfl, hb4⟩; go_wp2_with fail))
              refine hK.out _ _ ?hS133 (fun hHeld => ?rr133)
              case hS133 => (exact ⟨(HC.out _ (HBX.out.trans (hb4.mono HBX.out.size))).1, (HC.out _ (HBX.out.trans (hb4.mono HBX.out.size))).2.1⟩)
              clear hK K
              try simp only [Act.put, List.setIfInBounds_toArray, List.set_cons_zero, List.set_cons_succ]
              have HBB := Lib.hid (And.intro HBB.out.1 ((hb4.block _ (heap_lt HBB.out.2)).trans HBB.out.2))
              have HBX := Lib.hid (HBX.out.trans (hb4.mono HBX.out.size))
              clear hb4
              clear k4
              have k4 := (HC.out _ HBX.out).2.2.2
              refine wpAnyH_ready (rs := [4]) (by kernel_rfl) (by simp) ?_
              refine AllReadyH.cons (o := { dst := some 45, op := Op.load 82 (Operand.tmp 44), type := 82, pos := "lane.go:31", after := #[{ on := 3, ground := Ground.data }], guard := none }) rfl (fun K hK => ?step134) ?more134
              case more134 => exact AllReadyH.nil
              ((go_simp; go_wp2_with fail))
              refine hK.out _ _ ?hS134 (fun hHeld => ?rr134)
              case hS134 => (exact ⟨(HC.out _ HBX.out).1, (HC.out _ HBX.out).2.1⟩)
              clear hK K
              try simp only [Act.put, List.setIfInBounds_toArray, List.set_cons_zero, List.set_cons_succ]
              clear k4
              refine wpAnyH_ready (rs := [10]) (by kernel_rfl) (by simp) ?_
              refine AllReadyH.cons (o := { dst := some 51, op := Op.call { callee := Callee.value (Operand.func 105), args := #[Operand.tmp 45, Operand.tmp 48, Operand.tmp 50], argTypes := #[82, 3, 82] }, type := 82, pos := "lane.go:31", after := #[{ on := 4, ground := Ground.data }, { on := 7, ground := Ground.data }, { on := 9, ground := Ground.data }, { on := 7, ground := Ground.chain }], guard := none }) rfl (fun K hK => ?step135) ?more135
              case more135 => exact AllReadyH.nil
              ((go_simp; go_at_call 105; refine (HIN.out false _ _ HBX.out HBB.out.1 HBB.out.2).mono ?_; rintro e w6 ⟨A6, n6, c6, rfl, hr6, ho6, ht6⟩; go_wp2_with fail))
              refine hK.out _ _ ?hS135 (fun hHeld => ?rr135)
              case hS135 => (exact (HS6.out _ w6 undef HBX.out ht6).1)
              clear hK K
              try simp only [Act.put, List.setIfInBounds_toArray, List.set_cons_zero, List.set_cons_succ]
              have HF6 := Lib.hid (HFIN.out false _ w6 _ HBX.out hr6 ho6 ht6)
              have HS7 := Lib.hid (HS6.out _ w6 (.slice A6 n6 c6) HBX.out ht6).2.1
              have z1 := (HS6.out _ w6 undef HBX.out ht6).2.2.1
              have z2 := (HS6.out _ w6 undef HBX.out ht6).2.2.2
              clear hr6 ho6 ht6
              refine wpAnyH_take (i := 11) (oi := { dst := some 52, op := Op.nilCheck (Operand.tmp 41), type := 0, pos := "lane.go:31", after := #[{ on := 0, ground := Ground.data }, { on := 0, ground := Ground.phase }, { on := 1, ground := Ground.phase }, { on := 2, ground := Ground.phase }, { on := 3, ground := Ground.phase }, { on := 4, ground := Ground.phase }, { on := 5, ground := Ground.phase }, { on := 6, ground := Ground.phase }, { on := 7, ground := Ground.phase }, { on := 8, ground := Ground.phase }, { on := 9, ground := Ground.phase }, { on := 10, ground := Ground.phase }], guard := none }) (v := ?vv136) rfl (by kernel_rfl) (by kernel_rfl) (by kernel_rfl) (fun _ _ _ h => h) ?hy136 (by assumption) ?rest136
              case hy136 => (refine Or.inl ⟨by rfl, ?_⟩; intro W hSw; (try dsimp only at hSw); go_simp; (try with_reducible rfl))
              try simp only [Act.put, List.setIfInBounds_toArray, List.set_cons_zero, List.set_cons_succ]
              refine wpAnyH_take (i := 12) (oi := { dst := some 53, op := Op.fieldAddr 84 (Operand.tmp 52) 2, type := 0, pos := "lane.go:31", after := #[{ on := 11, ground := Ground.data }, { on := 0, ground := Ground.phase }, { on := 1, ground := Ground.phase }, { on := 2, ground := Ground.phase }, { on := 3, ground := Ground.phase }, { on := 4, ground := Ground.phase }, { on := 5, ground := Ground.phase }, { on := 6, ground := Ground.phase }, { on := 7, ground := Ground.phase }, { on := 8, ground := Ground.phase }, { on := 9, ground := Ground.phase }, { on := 10, ground := Ground.phase }], guard := none }) (v := ?vv137) rfl (by kernel_rfl) (by kernel_rfl) (by kernel_rfl) (fun _ _ _ h => h) ?hy137 (by assumption) ?rest137
              case hy137 => (refine Or.inl ⟨by rfl, ?_⟩; intro W hSw; (try dsimp only at hSw); go_simp; (try with_reducible rfl))
              try simp only [Act.put, List.setIfInBounds_toArray, List.set_cons_zero, List.set_cons_succ]
              refine wpAnyH_ready (rs := [13]) (by kernel_rfl) (by simp) ?_
              refine AllReadyH.cons (o := { dst := none, op := Op.store 82 (Operand.tmp 53) (Operand.tmp 51), type := 0, pos := "lane.go:31", after := #[{ on := 12, ground := Ground.data }, { on := 10, ground := Ground.data }, { on := 10, ground := Ground.chain }, { on := 0, ground := Ground.phase }, { on := 1, ground := Ground.phase }, { on := 2, ground := Ground.phase }, { on := 3, ground := Ground.phase }, { on := 4, ground := Ground.phase }, { on := 5, ground := Ground.phase }, { on := 6, ground := Ground.phase }, { on := 7, ground := Ground.phase }, { on := 8, ground := Ground.phase }, { on := 9, ground := Ground.phase }, { on := 10, ground := Ground.phase }], guard := none }) rfl (fun K hK => ?step138) ?more138
              case more138 => exact AllReadyH.nil
              ((go_simp; go_wp2_with fail))
              refine hK.out _ _ ?hS138 (fun hHeld => ?rr138)
              case hS138 => (exact HS7.out)
              clear hK K
              try simp only [Act.put, List.setIfInBounds_toArray, List.set_cons_zero, List.set_cons_succ]
              refine wpAnyH_done (by kernel_rfl) ?_ _
              clear hHeld z1 z2
              go_wp2_with fail
              refine bodyPost_ret (v := .bool false) (by simp [results, Tryz.results76, go_sem]) rfl ⟨_, by rw [HLV.out], by rw [HLV.out]; exact HF6.out.1, HF6.out.2.1, HF6.out.2.2⟩
end Go.Proofs.YtmchmlkbpocboaaGreatDoor
