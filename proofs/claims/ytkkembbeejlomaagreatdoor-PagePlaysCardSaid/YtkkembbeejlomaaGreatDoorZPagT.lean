/- Two pages become one. Two pages become one: the walk. Del. Del: the walk. -/
import Derived.Test.YtkkembbeejlomaaGreatDoorZPagJ
import Derived.Test.YtkkembbeejlomaaGreatDoorZPagN
import Derived.Test.YtkkembbeejlomaaGreatDoorZPagP
set_option linter.unusedSimpArgs false
set_option linter.unusedVariables false
set_option linter.unnecessarySimpa false
namespace Go.Proofs.YtkkembbeejlomaaGreatDoor
open Go.RowKit Go.Shelf Go.Sort Go.Lib

theorem erase_mem {α : Type} {l : List α} {k : Nat} {x : α} (h : x ∈ l.eraseIdx k) : x ∈ l := List.mem_of_mem_eraseIdx h
theorem zip_erase {α β : Type} : ∀ (l : List α) (m : List β) (k : Nat), (l.eraseIdx k).zip (m.eraseIdx k) = (l.zip m).eraseIdx k
  | [], m, k => by simp
  | a :: l, [], k => by simp
  | a :: l, b :: m, 0 => by simp
  | a :: l, b :: m, k + 1 => by simp [zip_erase l m k]
theorem pgsV_del {L : List Pl} {P : List (List Row)} {k : Nat} : delL 1 k (pgsV L P) = pgsV (L.eraseIdx k) (P.eraseIdx k) := by
  rw [pgsV_zip, pgsV_zip, zip_erase, List.eraseIdx_eq_take_drop_succ]
  unfold delL
  rw [Nat.mul_one, Nat.mul_one, List.map_append, List.map_take, List.map_drop]
/-- A page less. -/
theorem St.erased {W W4 W5 : World} {s most g c k : Nat} {L : List Pl} {P : List (List Row)} (h : St W s most (.slice (some ⟨g, 0, none⟩) P.length c) L P) (hk : k < P.length) (hb : Below W.heap.size W W4) (hA : Area W5 1 g 0 c (delL 1 k (pgsV L P))) (ht : TouchA g 0 (c * 1) W4 W5) (hc : P.length ≤ c) :
    St (W5.setCell ⟨s, 1, none⟩ (.slice (some ⟨g, 0, none⟩) (P.length - 1) c)) s most (.slice (some ⟨g, 0, none⟩) (P.length - 1) c) (L.eraseIdx k) (P.eraseIdx k) ∧ StPost W s most (.slice (some ⟨g, 0, none⟩) P.length c) L (P.eraseIdx k) (W5.setCell ⟨s, 1, none⟩ (.slice (some ⟨g, 0, none⟩) (P.length - 1) c)) ∧ (W5.cell? ⟨s, 1, none⟩).isSome = true ∧ W5.frozen? ⟨s, 1, none⟩ = false := by
  have hT : Touch (fun k => (Value.slice (some ⟨g, 0, none⟩) P.length c).ownBlock = some k) W W5 := Touch.ahead hb (ht.touch.mono (fun k _ e => by rw [e]; rfl))
  have hl : (P.eraseIdx k).length = P.length - 1 := by rw [List.length_eraseIdx]; simp [hk]
  have hlL : (L.eraseIdx k).length = P.length - 1 := by rw [List.length_eraseIdx, h.len]; simp [hk]
  rw [pgsV_del] at hA
  have hrow : RowIs W5 1 (.slice (some ⟨g, 0, none⟩) (P.length - 1) c) (P.eraseIdx k).length (pgsV (L.eraseIdx k) (P.eraseIdx k)) := by
    rw [hl]
    exact hA.row (by rw [pgsV_len (by rw [hl, hlL]), hl, Nat.mul_one]) (by omega)
  have hog : ∀ x ∈ L.eraseIdx k, ∃ b ∈ L, x.g = b.g := fun x hx => ⟨x, erase_mem hx, rfl⟩
  obtain ⟨h1, h2⟩ := h.pages hT hrow (fun j e => .inl e) (by rw [hl, hlL]) (zip_at.2 (fun x hx => by
    rw [zip_erase] at hx
    exact zip_at.1 h.each x (erase_mem hx))) hog (h.apart.sublist (List.eraseIdx_sublist _ _))
  have hsl := heap_lt h.head
  have hh := (hT.block s hsl h.off).trans h.head
  refine ⟨h1, ⟨_, _, h1, h2, fun j hj => ?_⟩, by rw [cell_of hh 1]; rfl, free0 hh 1⟩
  rcases hj with rfl | hj | ⟨x, hx, rfl⟩
  · exact .inl (.inl rfl)
  · exact .inl (.inr (.inl hj))
  · exact .inl (.inr (.inr ⟨x, erase_mem hx, rfl⟩))
/-- May page i and the next one be one? -/
def joinsP (most : Nat) (P : List (List Row)) (i : Int) : Bool := decide (0 ≤ i) && decide (i + 1 < (P.length : Int)) && decide (((P[i.toNat]?).getD []).length + ((P[i.toNat + 1]?).getD []).length ≤ most)
set_option maxRecDepth 100000 in
set_option maxHeartbeats 4000000 in
theorem joins_any {w : World} {s most : Nat} {v : Value} {L : List Pl} {P : List (List Row)} {i : Int} (h : St w s most v L P) (hl : P.length ≤ 256) (hi : -10 ≤ i ∧ i ≤ 1000) (hp : ∀ p ∈ P, p.length ≤ 1000) :
    Calls Tryz.prog 74 #[.pointer (some ⟨s, 0, none⟩), .int .i64 i] w fun e w' => e = .returned (.bool (joinsP most P i)) ∧ Below w.heap.size w w' := by
  obtain ⟨A, c, hv, hc1, hc2, _⟩ := h.row.form
  unfold maxLen at hc2
  have ks : w.cell? ⟨s, 1, none⟩ = some v := cell_of h.head 1
  have km : w.cell? ⟨s, 0, none⟩ = some (.int .i64 most) := cell_of h.head 0
  rw [hv] at ks
  have hlP : (P.length : Int) ≤ 256 := by omega
  have hw : IntKind.i64.wrap (i + 1) = i + 1 := IntWalk.i64_in _ (by omega)
  by_cases h1 : 0 ≤ i
  · by_cases h2 : i + 1 < (P.length : Int)
    · obtain ⟨j, rfl⟩ : ∃ j : Nat, i = (j : Int) := ⟨i.toNat, by omega⟩
      have hp0 : P[j]? = some (P[j]'(by omega)) := List.getElem?_eq_getElem _
      have hq0 : P[j + 1]? = some (P[j + 1]'(by omega)) := List.getElem?_eq_getElem _
      have hJ : joinsP most P (j : Int) = decide ((P[j]'(by omega)).length + (P[j + 1]'(by omega)).length ≤ most) := by
        unfold joinsP
        rw [decide_eq_true h1, decide_eq_true h2, show ((j : Int)).toNat = j from rfl, hp0, hq0]
        simp
      generalize P[j]'(by omega) = p at hp0 hJ
      generalize P[j + 1]'(by omega) = q at hq0 hJ
      have hpl := hp p (List.mem_of_getElem? hp0)
      have hql := hp q (List.mem_of_getElem? hq0)
      obtain ⟨a, g, c', ha, hv1, _, _, kp, hA, hac⟩ := row_page h hp0
      obtain ⟨d, g', c'', hd, hv2, _, _, kq, hD, hdc⟩ := row_page h hq0
      have hv3 := hv.symm.trans hv1
      injection hv3 with e1 _ e3
      subst e1 e3
      have hv4 := hv1.symm.trans hv2
      injection hv4 with e1 _ _
      injection e1 with e1
      injection e1 with e1
      subst e1
      rw [hJ]
      have HKS : Hid (w.drew.cell? ⟨s, 0, none⟩ = some (.int .i64 most) ∧ w.drew.cell? ⟨s, 1, none⟩ = some (.slice (some ⟨g, 0, none⟩) P.length c) ∧ w.drew.cell? ⟨g, j, none⟩ = some (.slice (some ⟨a.g, a.o, none⟩) p.length a.cap) ∧ w.drew.cell? ⟨g, j + 1, none⟩ = some (.slice (some ⟨d.g, d.o, none⟩) q.length d.cap)) := Lib.hid ⟨km, ks, kp, kq⟩
      have hn : ((p.length : Int) + (q.length : Int) ≤ (most : Int)) = (p.length + q.length ≤ most) := by rw [eq_iff_iff]; omega
      have hwn : IntKind.i64.wrap ((p.length : Int) + (q.length : Int)) = (p.length : Int) + (q.length : Int) := IntWalk.i64_in _ (by omega)
      clear h hA hD hp0 hq0 hJ hp ha hd hv hv1 hv2
      have hjI : (j : Int) < (P.length : Int) := by omega
      go_enter Tryz.func74, Tryz.ntmps74
      go_wp2_with fail
      refine wp_only ?_
      refine wp_region_held_drew (S := fun W => W.cell? ⟨s, 0, none⟩ = some (.int .i64 most) ∧ W.cell? ⟨s, 1, none⟩ = some (.slice (some ⟨g, 0, none⟩) P.length c) ∧ W.cell? ⟨g, j, none⟩ = some (.slice (some ⟨a.g, a.o, none⟩) p.length a.cap) ∧ W.cell? ⟨g, j + 1, none⟩ = some (.slice (some ⟨d.g, d.o, none⟩) q.length d.cap)) (by kernel_rfl) HKS.out (fun hHeld => ?_)
      clear ks km kp kq
      refine wpAnyH_take (i := 0) (oi := { dst := some 5, op := Op.move (Operand.tmp 1), type := 3, pos := "change.go:79", after := #[], guard := none }) (v := ?vv1) rfl (by kernel_rfl) (by kernel_rfl) (by kernel_rfl) (fun _ _ _ h => h) ?hy1 (by assumption) ?rest1
      case hy1 => (refine Or.inl ⟨by rfl, ?_⟩; intro W hSw; (try dsimp only at hSw); go_simp; (try with_reducible rfl))
      try simp only [Act.put, List.setIfInBounds_toArray, List.set_cons_zero, List.set_cons_succ]
      refine wpAnyH_take (i := 1) (oi := { dst := some 6, op := Op.binOp BinOp.geq 3 (Operand.tmp 5) (Operand.const (Value.int IntKind.i64 0)) 3, type := 4, pos := "change.go:79", after := #[{ on := 0, ground := Ground.data }], guard := none }) (v := ?vv2) rfl (by kernel_rfl) (by kernel_rfl) (by kernel_rfl) (fun _ _ _ h => h) ?hy2 (by assumption) ?rest2
      case hy2 => (refine Or.inl ⟨by rfl, ?_⟩; intro W hSw; (try dsimp only at hSw); go_simp; (try with_reducible rfl))
      try simp only [Act.put, List.setIfInBounds_toArray, List.set_cons_zero, List.set_cons_succ]
      refine wpAnyH_take (i := 2) (oi := { dst := some 7, op := Op.move (Operand.tmp 6), type := 4, pos := "change.go:79", after := #[{ on := 1, ground := Ground.data }], guard := none }) (v := ?vv3) rfl (by kernel_rfl) (by kernel_rfl) (by kernel_rfl) (fun _ _ _ h => h) ?hy3 (by assumption) ?rest3
      case hy3 => (refine Or.inl ⟨by rfl, ?_⟩; intro W hSw; (try dsimp only at hSw); go_simp; (try with_reducible rfl))
      try simp only [Act.put, List.setIfInBounds_toArray, List.set_cons_zero, List.set_cons_succ]
      refine wpAnyH_take (i := 3) (oi := { dst := some 8, op := Op.move (Operand.tmp 1), type := 3, pos := "change.go:79", after := #[{ on := 2, ground := Ground.guard }], guard := some (2, true) }) (v := ?vv4) rfl (by kernel_rfl) (by kernel_rfl) (by kernel_rfl) (fun _ _ _ h => h) ?hy4 (by assumption) ?rest4
      case hy4 => (refine Or.inl ⟨by rfl, ?_⟩; intro W hSw; (try dsimp only at hSw); go_simp; (try with_reducible rfl))
      try simp only [Act.put, List.setIfInBounds_toArray, List.set_cons_zero, List.set_cons_succ]
      refine wpAnyH_take (i := 4) (oi := { dst := some 9, op := Op.binOp BinOp.add 3 (Operand.tmp 8) (Operand.const (Value.int IntKind.i64 1)) 3, type := 3, pos := "change.go:79", after := #[{ on := 3, ground := Ground.data }, { on := 2, ground := Ground.guard }], guard := some (2, true) }) (v := ?vv5) rfl (by kernel_rfl) (by kernel_rfl) (by kernel_rfl) (fun _ _ _ h => h) ?hy5 (by assumption) ?rest5
      case hy5 => (refine Or.inl ⟨by rfl, ?_⟩; intro W hSw; (try dsimp only at hSw); go_simp; (try with_reducible rfl))
      try simp only [Act.put, List.setIfInBounds_toArray, List.set_cons_zero, List.set_cons_succ]
      refine wpAnyH_take (i := 5) (oi := { dst := some 10, op := Op.move (Operand.tmp 0), type := 23, pos := "change.go:79", after := #[{ on := 2, ground := Ground.guard }], guard := some (2, true) }) (v := ?vv6) rfl (by kernel_rfl) (by kernel_rfl) (by kernel_rfl) (fun _ _ _ h => h) ?hy6 (by assumption) ?rest6
      case hy6 => (refine Or.inl ⟨by rfl, ?_⟩; intro W hSw; (try dsimp only at hSw); go_simp; (try with_reducible rfl))
      try simp only [Act.put, List.setIfInBounds_toArray, List.set_cons_zero, List.set_cons_succ]
      refine wpAnyH_take (i := 6) (oi := { dst := some 11, op := Op.nilCheck (Operand.tmp 10), type := 0, pos := "change.go:79", after := #[{ on := 5, ground := Ground.data }, { on := 2, ground := Ground.guard }], guard := some (2, true) }) (v := ?vv7) rfl (by kernel_rfl) (by kernel_rfl) (by kernel_rfl) (fun _ _ _ h => h) ?hy7 (by assumption) ?rest7
      case hy7 => (refine Or.inl ⟨by rfl, ?_⟩; intro W hSw; (try dsimp only at hSw); go_simp; (try with_reducible rfl))
      try simp only [Act.put, List.setIfInBounds_toArray, List.set_cons_zero, List.set_cons_succ]
      refine wpAnyH_take (i := 7) (oi := { dst := some 12, op := Op.fieldAddr 64 (Operand.tmp 11) 1, type := 0, pos := "change.go:79", after := #[{ on := 6, ground := Ground.data }, { on := 2, ground := Ground.guard }], guard := some (2, true) }) (v := ?vv8) rfl (by kernel_rfl) (by kernel_rfl) (by kernel_rfl) (fun _ _ _ h => h) ?hy8 (by assumption) ?rest8
      case hy8 => (refine Or.inl ⟨by rfl, ?_⟩; intro W hSw; (try dsimp only at hSw); go_simp; (try with_reducible rfl))
      try simp only [Act.put, List.setIfInBounds_toArray, List.set_cons_zero, List.set_cons_succ]
      refine wpAnyH_take (i := 8) (oi := { dst := some 13, op := Op.load 29 (Operand.tmp 12), type := 29, pos := "change.go:79", after := #[{ on := 7, ground := Ground.data }, { on := 2, ground := Ground.guard }], guard := some (2, true) }) (v := ?vv9) rfl (by kernel_rfl) (by kernel_rfl) (by kernel_rfl) (fun _ _ _ h => h) ?hy9 (by assumption) ?rest9
      case hy9 => (refine Or.inl ⟨by rfl, ?_⟩; intro W hSw; (try dsimp only at hSw); go_simp; (try with_reducible rfl))
      try simp only [Act.put, List.setIfInBounds_toArray, List.set_cons_zero, List.set_cons_succ]
      refine wpAnyH_take (i := 9) (oi := { dst := some 14, op := Op.call { callee := Callee.builtin Builtin.len, args := #[Operand.tmp 13], argTypes := #[29] }, type := 3, pos := "change.go:79", after := #[{ on := 8, ground := Ground.data }, { on := 2, ground := Ground.guard }], guard := some (2, true) }) (v := ?vv10) rfl (by kernel_rfl) (by kernel_rfl) (by kernel_rfl) (fun _ _ _ h => h) ?hy10 (by assumption) ?rest10
      case hy10 => (refine Or.inl ⟨by rfl, ?_⟩; intro W hSw; (try dsimp only at hSw); go_simp; (try with_reducible rfl))
      try simp only [Act.put, List.setIfInBounds_toArray, List.set_cons_zero, List.set_cons_succ]
      refine wpAnyH_take (i := 10) (oi := { dst := some 15, op := Op.binOp BinOp.lss 3 (Operand.tmp 9) (Operand.tmp 14) 3, type := 4, pos := "change.go:79", after := #[{ on := 4, ground := Ground.data }, { on := 9, ground := Ground.data }, { on := 2, ground := Ground.guard }], guard := some (2, true) }) (v := ?vv11) rfl (by kernel_rfl) (by kernel_rfl) (by kernel_rfl) (fun _ _ _ h => h) ?hy11 (by assumption) ?rest11
      case hy11 => (refine Or.inl ⟨by rfl, ?_⟩; intro W hSw; (try dsimp only at hSw); go_simp; (try with_reducible rfl))
      try simp only [Act.put, List.setIfInBounds_toArray, List.set_cons_zero, List.set_cons_succ]
      refine wpAnyH_take (i := 11) (oi := { dst := some 16, op := Op.pick (Operand.tmp 7) (Operand.tmp 15) (Operand.const (Value.bool false)), type := 4, pos := "change.go:79", after := #[{ on := 2, ground := Ground.data }, { on := 10, ground := Ground.data }], guard := none }) (v := ?vv12) rfl (by kernel_rfl) (by kernel_rfl) (by kernel_rfl) (fun _ _ _ h => h) ?hy12 (by assumption) ?rest12
      case hy12 => (refine Or.inl ⟨by rfl, ?_⟩; intro W hSw; (try dsimp only at hSw); go_simp; (try with_reducible rfl))
      try simp only [Act.put, List.setIfInBounds_toArray, List.set_cons_zero, List.set_cons_succ]
      refine wpAnyH_take (i := 12) (oi := { dst := some 17, op := Op.move (Operand.tmp 16), type := 4, pos := "change.go:79", after := #[{ on := 11, ground := Ground.data }, { on := 2, ground := Ground.chain }], guard := none }) (v := ?vv13) rfl (by kernel_rfl) (by kernel_rfl) (by kernel_rfl) (fun _ _ _ h => h) ?hy13 (by assumption) ?rest13
      case hy13 => (refine Or.inl ⟨by rfl, ?_⟩; intro W hSw; (try dsimp only at hSw); go_simp; (try with_reducible rfl))
      try simp only [Act.put, List.setIfInBounds_toArray, List.set_cons_zero, List.set_cons_succ]
      refine wpAnyH_take (i := 13) (oi := { dst := some 18, op := Op.move (Operand.tmp 0), type := 23, pos := "change.go:79", after := #[{ on := 12, ground := Ground.guard }], guard := some (12, true) }) (v := ?vv14) rfl (by kernel_rfl) (by kernel_rfl) (by kernel_rfl) (fun _ _ _ h => h) ?hy14 (by assumption) ?rest14
      case hy14 => (refine Or.inl ⟨by rfl, ?_⟩; intro W hSw; (try dsimp only at hSw); go_simp; (try with_reducible rfl))
      try simp only [Act.put, List.setIfInBounds_toArray, List.set_cons_zero, List.set_cons_succ]
      refine wpAnyH_take (i := 14) (oi := { dst := some 19, op := Op.nilCheck (Operand.tmp 18), type := 0, pos := "change.go:79", after := #[{ on := 13, ground := Ground.data }, { on := 12, ground := Ground.guard }], guard := some (12, true) }) (v := ?vv15) rfl (by kernel_rfl) (by kernel_rfl) (by kernel_rfl) (fun _ _ _ h => h) ?hy15 (by assumption) ?rest15
      case hy15 => (refine Or.inl ⟨by rfl, ?_⟩; intro W hSw; (try dsimp only at hSw); go_simp; (try with_reducible rfl))
      try simp only [Act.put, List.setIfInBounds_toArray, List.set_cons_zero, List.set_cons_succ]
      refine wpAnyH_take (i := 15) (oi := { dst := some 20, op := Op.fieldAddr 64 (Operand.tmp 19) 1, type := 0, pos := "change.go:79", after := #[{ on := 14, ground := Ground.data }, { on := 12, ground := Ground.guard }], guard := some (12, true) }) (v := ?vv16) rfl (by kernel_rfl) (by kernel_rfl) (by kernel_rfl) (fun _ _ _ h => h) ?hy16 (by assumption) ?rest16
      case hy16 => (refine Or.inl ⟨by rfl, ?_⟩; intro W hSw; (try dsimp only at hSw); go_simp; (try with_reducible rfl))
      try simp only [Act.put, List.setIfInBounds_toArray, List.set_cons_zero, List.set_cons_succ]
      refine wpAnyH_take (i := 16) (oi := { dst := some 21, op := Op.load 29 (Operand.tmp 20), type := 29, pos := "change.go:79", after := #[{ on := 15, ground := Ground.data }, { on := 12, ground := Ground.guard }], guard := some (12, true) }) (v := ?vv17) rfl (by kernel_rfl) (by kernel_rfl) (by kernel_rfl) (fun _ _ _ h => h) ?hy17 (by assumption) ?rest17
      case hy17 => (refine Or.inl ⟨by rfl, ?_⟩; intro W hSw; (try dsimp only at hSw); go_simp; (try with_reducible rfl))
      try simp only [Act.put, List.setIfInBounds_toArray, List.set_cons_zero, List.set_cons_succ]
      refine wpAnyH_take (i := 17) (oi := { dst := some 22, op := Op.move (Operand.tmp 1), type := 3, pos := "change.go:79", after := #[{ on := 12, ground := Ground.guard }], guard := some (12, true) }) (v := ?vv18) rfl (by kernel_rfl) (by kernel_rfl) (by kernel_rfl) (fun _ _ _ h => h) ?hy18 (by assumption) ?rest18
      case hy18 => (refine Or.inl ⟨by rfl, ?_⟩; intro W hSw; (try dsimp only at hSw); go_simp; (try with_reducible rfl))
      try simp only [Act.put, List.setIfInBounds_toArray, List.set_cons_zero, List.set_cons_succ]
      refine wpAnyH_take (i := 18) (oi := { dst := some 23, op := Op.indexAddr 29 (Operand.tmp 21) (Operand.tmp 22), type := 0, pos := "change.go:79", after := #[{ on := 16, ground := Ground.data }, { on := 17, ground := Ground.data }, { on := 12, ground := Ground.guard }], guard := some (12, true) }) (v := ?vv19) rfl (by kernel_rfl) (by kernel_rfl) (by kernel_rfl) (fun _ _ _ h => h) ?hy19 (by assumption) ?rest19
      case hy19 => (refine Or.inl ⟨by rfl, ?_⟩; intro W hSw; (try dsimp only at hSw); go_simp; (try with_reducible rfl))
      try simp only [Act.put, List.setIfInBounds_toArray, List.set_cons_zero, List.set_cons_succ]
      refine wpAnyH_take (i := 19) (oi := { dst := some 24, op := Op.load 40 (Operand.tmp 23), type := 40, pos := "change.go:79", after := #[{ on := 18, ground := Ground.data }, { on := 12, ground := Ground.guard }], guard := some (12, true) }) (v := ?vv20) rfl (by kernel_rfl) (by kernel_rfl) (by kernel_rfl) (fun _ _ _ h => h) ?hy20 (by assumption) ?rest20
      case hy20 => (refine Or.inl ⟨by rfl, ?_⟩; intro W hSw; (try dsimp only at hSw); go_simp; (try with_reducible rfl))
      try simp only [Act.put, List.setIfInBounds_toArray, List.set_cons_zero, List.set_cons_succ]
      refine wpAnyH_take (i := 20) (oi := { dst := some 25, op := Op.call { callee := Callee.builtin Builtin.len, args := #[Operand.tmp 24], argTypes := #[40] }, type := 3, pos := "change.go:79", after := #[{ on := 19, ground := Ground.data }, { on := 12, ground := Ground.guard }], guard := some (12, true) }) (v := ?vv21) rfl (by kernel_rfl) (by kernel_rfl) (by kernel_rfl) (fun _ _ _ h => h) ?hy21 (by assumption) ?rest21
      case hy21 => (refine Or.inl ⟨by rfl, ?_⟩; intro W hSw; (try dsimp only at hSw); go_simp; (try with_reducible rfl))
      try simp only [Act.put, List.setIfInBounds_toArray, List.set_cons_zero, List.set_cons_succ]
      refine wpAnyH_take (i := 21) (oi := { dst := some 26, op := Op.move (Operand.tmp 0), type := 23, pos := "change.go:79", after := #[{ on := 12, ground := Ground.guard }], guard := some (12, true) }) (v := ?vv22) rfl (by kernel_rfl) (by kernel_rfl) (by kernel_rfl) (fun _ _ _ h => h) ?hy22 (by assumption) ?rest22
      case hy22 => (refine Or.inl ⟨by rfl, ?_⟩; intro W hSw; (try dsimp only at hSw); go_simp; (try with_reducible rfl))
      try simp only [Act.put, List.setIfInBounds_toArray, List.set_cons_zero, List.set_cons_succ]
      refine wpAnyH_take (i := 22) (oi := { dst := some 27, op := Op.nilCheck (Operand.tmp 26), type := 0, pos := "change.go:79", after := #[{ on := 21, ground := Ground.data }, { on := 12, ground := Ground.guard }], guard := some (12, true) }) (v := ?vv23) rfl (by kernel_rfl) (by kernel_rfl) (by kernel_rfl) (fun _ _ _ h => h) ?hy23 (by assumption) ?rest23
      case hy23 => (refine Or.inl ⟨by rfl, ?_⟩; intro W hSw; (try dsimp only at hSw); go_simp; (try with_reducible rfl))
      try simp only [Act.put, List.setIfInBounds_toArray, List.set_cons_zero, List.set_cons_succ]
      refine wpAnyH_take (i := 23) (oi := { dst := some 28, op := Op.fieldAddr 64 (Operand.tmp 27) 1, type := 0, pos := "change.go:79", after := #[{ on := 22, ground := Ground.data }, { on := 12, ground := Ground.guard }], guard := some (12, true) }) (v := ?vv24) rfl (by kernel_rfl) (by kernel_rfl) (by kernel_rfl) (fun _ _ _ h => h) ?hy24 (by assumption) ?rest24
      case hy24 => (refine Or.inl ⟨by rfl, ?_⟩; intro W hSw; (try dsimp only at hSw); go_simp; (try with_reducible rfl))
      try simp only [Act.put, List.setIfInBounds_toArray, List.set_cons_zero, List.set_cons_succ]
      refine wpAnyH_take (i := 24) (oi := { dst := some 29, op := Op.load 29 (Operand.tmp 28), type := 29, pos := "change.go:79", after := #[{ on := 23, ground := Ground.data }, { on := 12, ground := Ground.guard }], guard := some (12, true) }) (v := ?vv25) rfl (by kernel_rfl) (by kernel_rfl) (by kernel_rfl) (fun _ _ _ h => h) ?hy25 (by assumption) ?rest25
      case hy25 => (refine Or.inl ⟨by rfl, ?_⟩; intro W hSw; (try dsimp only at hSw); go_simp; (try with_reducible rfl))
      try simp only [Act.put, List.setIfInBounds_toArray, List.set_cons_zero, List.set_cons_succ]
      refine wpAnyH_take (i := 25) (oi := { dst := some 30, op := Op.move (Operand.tmp 1), type := 3, pos := "change.go:79", after := #[{ on := 12, ground := Ground.guard }], guard := some (12, true) }) (v := ?vv26) rfl (by kernel_rfl) (by kernel_rfl) (by kernel_rfl) (fun _ _ _ h => h) ?hy26 (by assumption) ?rest26
      case hy26 => (refine Or.inl ⟨by rfl, ?_⟩; intro W hSw; (try dsimp only at hSw); go_simp; (try with_reducible rfl))
      try simp only [Act.put, List.setIfInBounds_toArray, List.set_cons_zero, List.set_cons_succ]
      refine wpAnyH_take (i := 26) (oi := { dst := some 31, op := Op.binOp BinOp.add 3 (Operand.tmp 30) (Operand.const (Value.int IntKind.i64 1)) 3, type := 3, pos := "change.go:79", after := #[{ on := 25, ground := Ground.data }, { on := 12, ground := Ground.guard }], guard := some (12, true) }) (v := ?vv27) rfl (by kernel_rfl) (by kernel_rfl) (by kernel_rfl) (fun _ _ _ h => h) ?hy27 (by assumption) ?rest27
      case hy27 => (refine Or.inl ⟨by rfl, ?_⟩; intro W hSw; (try dsimp only at hSw); go_simp; (try with_reducible rfl))
      try simp only [Act.put, List.setIfInBounds_toArray, List.set_cons_zero, List.set_cons_succ]
      refine wpAnyH_take (i := 27) (oi := { dst := some 32, op := Op.indexAddr 29 (Operand.tmp 29) (Operand.tmp 31), type := 0, pos := "change.go:79", after := #[{ on := 24, ground := Ground.data }, { on := 26, ground := Ground.data }, { on := 12, ground := Ground.guard }], guard := some (12, true) }) (v := (.pointer (some ⟨g, j + 1, none⟩))) rfl (by kernel_rfl) (by kernel_rfl) (by kernel_rfl) (fun _ _ _ h => h) ?hy28 (by assumption) ?rest28
      case hy28 => ((refine Or.inl ⟨by rfl, ?_⟩; intro W hSw; go_simp; intro h; omega))
      try simp only [Act.put, List.setIfInBounds_toArray, List.set_cons_zero, List.set_cons_succ]
      refine wpAnyH_take (i := 28) (oi := { dst := some 33, op := Op.load 40 (Operand.tmp 32), type := 40, pos := "change.go:79", after := #[{ on := 27, ground := Ground.data }, { on := 12, ground := Ground.guard }], guard := some (12, true) }) (v := ?vv29) rfl (by kernel_rfl) (by kernel_rfl) (by kernel_rfl) (fun _ _ _ h => h) ?hy29 (by assumption) ?rest29
      case hy29 => (refine Or.inl ⟨by rfl, ?_⟩; intro W hSw; (try dsimp only at hSw); go_simp; (try with_reducible rfl))
      try simp only [Act.put, List.setIfInBounds_toArray, List.set_cons_zero, List.set_cons_succ]
      refine wpAnyH_take (i := 29) (oi := { dst := some 34, op := Op.call { callee := Callee.builtin Builtin.len, args := #[Operand.tmp 33], argTypes := #[40] }, type := 3, pos := "change.go:79", after := #[{ on := 28, ground := Ground.data }, { on := 12, ground := Ground.guard }], guard := some (12, true) }) (v := ?vv30) rfl (by kernel_rfl) (by kernel_rfl) (by kernel_rfl) (fun _ _ _ h => h) ?hy30 (by assumption) ?rest30
      case hy30 => (refine Or.inl ⟨by rfl, ?_⟩; intro W hSw; (try dsimp only at hSw); go_simp; (try with_reducible rfl))
      try simp only [Act.put, List.setIfInBounds_toArray, List.set_cons_zero, List.set_cons_succ]
      refine wpAnyH_take (i := 30) (oi := { dst := some 35, op := Op.binOp BinOp.add 3 (Operand.tmp 25) (Operand.tmp 34) 3, type := 3, pos := "change.go:79", after := #[{ on := 20, ground := Ground.data }, { on := 29, ground := Ground.data }, { on := 12, ground := Ground.guard }], guard := some (12, true) }) (v := ?vv31) rfl (by kernel_rfl) (by kernel_rfl) (by kernel_rfl) (fun _ _ _ h => h) ?hy31 (by assumption) ?rest31
      case hy31 => (refine Or.inl ⟨by rfl, ?_⟩; intro W hSw; (try dsimp only at hSw); go_simp; (try with_reducible rfl))
      try simp only [Act.put, List.setIfInBounds_toArray, List.set_cons_zero, List.set_cons_succ]
      refine wpAnyH_take (i := 31) (oi := { dst := some 36, op := Op.move (Operand.tmp 0), type := 23, pos := "change.go:79", after := #[{ on := 12, ground := Ground.guard }], guard := some (12, true) }) (v := ?vv32) rfl (by kernel_rfl) (by kernel_rfl) (by kernel_rfl) (fun _ _ _ h => h) ?hy32 (by assumption) ?rest32
      case hy32 => (refine Or.inl ⟨by rfl, ?_⟩; intro W hSw; (try dsimp only at hSw); go_simp; (try with_reducible rfl))
      try simp only [Act.put, List.setIfInBounds_toArray, List.set_cons_zero, List.set_cons_succ]
      refine wpAnyH_take (i := 32) (oi := { dst := some 37, op := Op.nilCheck (Operand.tmp 36), type := 0, pos := "change.go:79", after := #[{ on := 31, ground := Ground.data }, { on := 12, ground := Ground.guard }], guard := some (12, true) }) (v := ?vv33) rfl (by kernel_rfl) (by kernel_rfl) (by kernel_rfl) (fun _ _ _ h => h) ?hy33 (by assumption) ?rest33
      case hy33 => (refine Or.inl ⟨by rfl, ?_⟩; intro W hSw; (try dsimp only at hSw); go_simp; (try with_reducible rfl))
      try simp only [Act.put, List.setIfInBounds_toArray, List.set_cons_zero, List.set_cons_succ]
      refine wpAnyH_take (i := 33) (oi := { dst := some 38, op := Op.fieldAddr 64 (Operand.tmp 37) 0, type := 0, pos := "change.go:79", after := #[{ on := 32, ground := Ground.data }, { on := 12, ground := Ground.guard }], guard := some (12, true) }) (v := ?vv34) rfl (by kernel_rfl) (by kernel_rfl) (by kernel_rfl) (fun _ _ _ h => h) ?hy34 (by assumption) ?rest34
      case hy34 => (refine Or.inl ⟨by rfl, ?_⟩; intro W hSw; (try dsimp only at hSw); go_simp; (try with_reducible rfl))
      try simp only [Act.put, List.setIfInBounds_toArray, List.set_cons_zero, List.set_cons_succ]
      refine wpAnyH_take (i := 34) (oi := { dst := some 39, op := Op.load 3 (Operand.tmp 38), type := 3, pos := "change.go:79", after := #[{ on := 33, ground := Ground.data }, { on := 12, ground := Ground.guard }], guard := some (12, true) }) (v := ?vv35) rfl (by kernel_rfl) (by kernel_rfl) (by kernel_rfl) (fun _ _ _ h => h) ?hy35 (by assumption) ?rest35
      case hy35 => (refine Or.inl ⟨by rfl, ?_⟩; intro W hSw; (try dsimp only at hSw); go_simp; (try with_reducible rfl))
      try simp only [Act.put, List.setIfInBounds_toArray, List.set_cons_zero, List.set_cons_succ]
      refine wpAnyH_take (i := 35) (oi := { dst := some 40, op := Op.binOp BinOp.leq 3 (Operand.tmp 35) (Operand.tmp 39) 3, type := 4, pos := "change.go:79", after := #[{ on := 30, ground := Ground.data }, { on := 34, ground := Ground.data }, { on := 12, ground := Ground.guard }], guard := some (12, true) }) (v := (.bool (decide (p.length + q.length ≤ most)))) rfl (by kernel_rfl) (by kernel_rfl) (by kernel_rfl) (fun _ _ _ h => h) ?hy36 (by assumption) ?rest36
      case hy36 => ((refine Or.inl ⟨by rfl, ?_⟩; intro W hSw; go_simp; done))
      try simp only [Act.put, List.setIfInBounds_toArray, List.set_cons_zero, List.set_cons_succ]
      refine wpAnyH_take (i := 36) (oi := { dst := some 41, op := Op.pick (Operand.tmp 17) (Operand.tmp 40) (Operand.const (Value.bool false)), type := 4, pos := "change.go:79", after := #[{ on := 12, ground := Ground.data }, { on := 35, ground := Ground.data }], guard := none }) (v := ?vv37) rfl (by kernel_rfl) (by kernel_rfl) (by kernel_rfl) (fun _ _ _ h => h) ?hy37 (by assumption) ?rest37
      case hy37 => (refine Or.inl ⟨by rfl, ?_⟩; intro W hSw; (try dsimp only at hSw); go_simp; (try with_reducible rfl))
      try simp only [Act.put, List.setIfInBounds_toArray, List.set_cons_zero, List.set_cons_succ]
      refine wpAnyH_take (i := 37) (oi := { dst := some 4, op := Op.assign (Operand.tmp 41), type := 4, pos := "change.go:79", after := #[{ on := 36, ground := Ground.data }, { on := 12, ground := Ground.chain }, { on := 0, ground := Ground.phase }, { on := 1, ground := Ground.phase }, { on := 2, ground := Ground.phase }, { on := 3, ground := Ground.phase }, { on := 4, ground := Ground.phase }, { on := 5, ground := Ground.phase }, { on := 6, ground := Ground.phase }, { on := 7, ground := Ground.phase }, { on := 8, ground := Ground.phase }, { on := 9, ground := Ground.phase }, { on := 10, ground := Ground.phase }, { on := 11, ground := Ground.phase }, { on := 12, ground := Ground.phase }, { on := 13, ground := Ground.phase }, { on := 14, ground := Ground.phase }, { on := 15, ground := Ground.phase }, { on := 16, ground := Ground.phase }, { on := 17, ground := Ground.phase }, { on := 18, ground := Ground.phase }, { on := 19, ground := Ground.phase }, { on := 20, ground := Ground.phase }, { on := 21, ground := Ground.phase }, { on := 22, ground := Ground.phase }, { on := 23, ground := Ground.phase }, { on := 24, ground := Ground.phase }, { on := 25, ground := Ground.phase }, { on := 26, ground := Ground.phase }, { on := 27, ground := Ground.phase }, { on := 28, ground := Ground.phase }, { on := 29, ground := Ground.phase }, { on := 30, ground := Ground.phase }, { on := 31, ground := Ground.phase }, { on := 32, ground := Ground.phase }, { on := 33, ground := Ground.phase }, { on := 34, ground := Ground.phase }, { on := 35, ground := Ground.phase }, { on := 36, ground := Ground.phase }], guard := none }) (v := ?vv38) rfl (by kernel_rfl) (by kernel_rfl) (by kernel_rfl) (fun _ _ _ h => h) ?hy38 (by assumption) ?rest38
      case hy38 => (refine Or.inl ⟨by rfl, ?_⟩; intro W hSw; (try dsimp only at hSw); go_simp; (try with_reducible rfl))
      try simp only [Act.put, List.setIfInBounds_toArray, List.set_cons_zero, List.set_cons_succ]
      refine wpAnyH_done (by kernel_rfl) ?_ _
      clear hHeld
      dsimp only [onlyN]
      go_wp2_with fail
      go_ret
      exact ⟨by simp, below_drew (Below.refl _ _)⟩
    · have hJ : joinsP most P i = false := by unfold joinsP; rw [decide_eq_false h2]; simp
      rw [hJ]
      clear h
      go_enter Tryz.func74, Tryz.ntmps74
      go_wp2_with fail
      refine wp_only ?_
      refine wp_region_held_drew (S := fun W => W.cell? ⟨s, 1, none⟩ = some (.slice A P.length c)) (by kernel_rfl) ks (fun hHeld => ?_)
      refine wpAnyH_take (i := 0) (oi := { dst := some 5, op := Op.move (Operand.tmp 1), type := 3, pos := "change.go:79", after := #[], guard := none }) (v := ?vv39) rfl (by kernel_rfl) (by kernel_rfl) (by kernel_rfl) (fun _ _ _ h => h) ?hy39 (by assumption) ?rest39
      case hy39 => (refine Or.inl ⟨by rfl, ?_⟩; intro W hSw; (try dsimp only at hSw); go_simp; (try with_reducible rfl))
      try simp only [Act.put, List.setIfInBounds_toArray, List.set_cons_zero, List.set_cons_succ]
      refine wpAnyH_take (i := 1) (oi := { dst := some 6, op := Op.binOp BinOp.geq 3 (Operand.tmp 5) (Operand.const (Value.int IntKind.i64 0)) 3, type := 4, pos := "change.go:79", after := #[{ on := 0, ground := Ground.data }], guard := none }) (v := ?vv40) rfl (by kernel_rfl) (by kernel_rfl) (by kernel_rfl) (fun _ _ _ h => h) ?hy40 (by assumption) ?rest40
      case hy40 => (refine Or.inl ⟨by rfl, ?_⟩; intro W hSw; (try dsimp only at hSw); go_simp; (try with_reducible rfl))
      try simp only [Act.put, List.setIfInBounds_toArray, List.set_cons_zero, List.set_cons_succ]
      refine wpAnyH_take (i := 2) (oi := { dst := some 7, op := Op.move (Operand.tmp 6), type := 4, pos := "change.go:79", after := #[{ on := 1, ground := Ground.data }], guard := none }) (v := ?vv41) rfl (by kernel_rfl) (by kernel_rfl) (by kernel_rfl) (fun _ _ _ h => h) ?hy41 (by assumption) ?rest41
      case hy41 => (refine Or.inl ⟨by rfl, ?_⟩; intro W hSw; (try dsimp only at hSw); go_simp; (try with_reducible rfl))
      try simp only [Act.put, List.setIfInBounds_toArray, List.set_cons_zero, List.set_cons_succ]
      refine wpAnyH_take (i := 3) (oi := { dst := some 8, op := Op.move (Operand.tmp 1), type := 3, pos := "change.go:79", after := #[{ on := 2, ground := Ground.guard }], guard := some (2, true) }) (v := ?vv42) rfl (by kernel_rfl) (by kernel_rfl) (by kernel_rfl) (fun _ _ _ h => h) ?hy42 (by assumption) ?rest42
      case hy42 => (refine Or.inl ⟨by rfl, ?_⟩; intro W hSw; (try dsimp only at hSw); go_simp; (try with_reducible rfl))
      try simp only [Act.put, List.setIfInBounds_toArray, List.set_cons_zero, List.set_cons_succ]
      refine wpAnyH_take (i := 4) (oi := { dst := some 9, op := Op.binOp BinOp.add 3 (Operand.tmp 8) (Operand.const (Value.int IntKind.i64 1)) 3, type := 3, pos := "change.go:79", after := #[{ on := 3, ground := Ground.data }, { on := 2, ground := Ground.guard }], guard := some (2, true) }) (v := ?vv43) rfl (by kernel_rfl) (by kernel_rfl) (by kernel_rfl) (fun _ _ _ h => h) ?hy43 (by assumption) ?rest43
      case hy43 => (refine Or.inl ⟨by rfl, ?_⟩; intro W hSw; (try dsimp only at hSw); go_simp; (try with_reducible rfl))
      try simp only [Act.put, List.setIfInBounds_toArray, List.set_cons_zero, List.set_cons_succ]
      refine wpAnyH_take (i := 5) (oi := { dst := some 10, op := Op.move (Operand.tmp 0), type := 23, pos := "change.go:79", after := #[{ on := 2, ground := Ground.guard }], guard := some (2, true) }) (v := ?vv44) rfl (by kernel_rfl) (by kernel_rfl) (by kernel_rfl) (fun _ _ _ h => h) ?hy44 (by assumption) ?rest44
      case hy44 => (refine Or.inl ⟨by rfl, ?_⟩; intro W hSw; (try dsimp only at hSw); go_simp; (try with_reducible rfl))
      try simp only [Act.put, List.setIfInBounds_toArray, List.set_cons_zero, List.set_cons_succ]
      refine wpAnyH_take (i := 6) (oi := { dst := some 11, op := Op.nilCheck (Operand.tmp 10), type := 0, pos := "change.go:79", after := #[{ on := 5, ground := Ground.data }, { on := 2, ground := Ground.guard }], guard := some (2, true) }) (v := ?vv45) rfl (by kernel_rfl) (by kernel_rfl) (by kernel_rfl) (fun _ _ _ h => h) ?hy45 (by assumption) ?rest45
      case hy45 => (refine Or.inl ⟨by rfl, ?_⟩; intro W hSw; (try dsimp only at hSw); go_simp; (try with_reducible rfl))
      try simp only [Act.put, List.setIfInBounds_toArray, List.set_cons_zero, List.set_cons_succ]
      refine wpAnyH_take (i := 7) (oi := { dst := some 12, op := Op.fieldAddr 64 (Operand.tmp 11) 1, type := 0, pos := "change.go:79", after := #[{ on := 6, ground := Ground.data }, { on := 2, ground := Ground.guard }], guard := some (2, true) }) (v := ?vv46) rfl (by kernel_rfl) (by kernel_rfl) (by kernel_rfl) (fun _ _ _ h => h) ?hy46 (by assumption) ?rest46
      case hy46 => (refine Or.inl ⟨by rfl, ?_⟩; intro W hSw; (try dsimp only at hSw); go_simp; (try with_reducible rfl))
      try simp only [Act.put, List.setIfInBounds_toArray, List.set_cons_zero, List.set_cons_succ]
      refine wpAnyH_take (i := 8) (oi := { dst := some 13, op := Op.load 29 (Operand.tmp 12), type := 29, pos := "change.go:79", after := #[{ on := 7, ground := Ground.data }, { on := 2, ground := Ground.guard }], guard := some (2, true) }) (v := ?vv47) rfl (by kernel_rfl) (by kernel_rfl) (by kernel_rfl) (fun _ _ _ h => h) ?hy47 (by assumption) ?rest47
      case hy47 => (refine Or.inl ⟨by rfl, ?_⟩; intro W hSw; (try dsimp only at hSw); go_simp; (try with_reducible rfl))
      try simp only [Act.put, List.setIfInBounds_toArray, List.set_cons_zero, List.set_cons_succ]
      refine wpAnyH_take (i := 9) (oi := { dst := some 14, op := Op.call { callee := Callee.builtin Builtin.len, args := #[Operand.tmp 13], argTypes := #[29] }, type := 3, pos := "change.go:79", after := #[{ on := 8, ground := Ground.data }, { on := 2, ground := Ground.guard }], guard := some (2, true) }) (v := ?vv48) rfl (by kernel_rfl) (by kernel_rfl) (by kernel_rfl) (fun _ _ _ h => h) ?hy48 (by assumption) ?rest48
      case hy48 => (refine Or.inl ⟨by rfl, ?_⟩; intro W hSw; (try dsimp only at hSw); go_simp; (try with_reducible rfl))
      try simp only [Act.put, List.setIfInBounds_toArray, List.set_cons_zero, List.set_cons_succ]
      refine wpAnyH_take (i := 10) (oi := { dst := some 15, op := Op.binOp BinOp.lss 3 (Operand.tmp 9) (Operand.tmp 14) 3, type := 4, pos := "change.go:79", after := #[{ on := 4, ground := Ground.data }, { on := 9, ground := Ground.data }, { on := 2, ground := Ground.guard }], guard := some (2, true) }) (v := (.bool false)) rfl (by kernel_rfl) (by kernel_rfl) (by kernel_rfl) (fun _ _ _ h => h) ?hy49 (by assumption) ?rest49
      case hy49 => ((refine Or.inl ⟨by rfl, ?_⟩; intro W hSw; go_simp; done))
      try simp only [Act.put, List.setIfInBounds_toArray, List.set_cons_zero, List.set_cons_succ]
      refine wpAnyH_take (i := 11) (oi := { dst := some 16, op := Op.pick (Operand.tmp 7) (Operand.tmp 15) (Operand.const (Value.bool false)), type := 4, pos := "change.go:79", after := #[{ on := 2, ground := Ground.data }, { on := 10, ground := Ground.data }], guard := none }) (v := ?vv50) rfl (by kernel_rfl) (by kernel_rfl) (by kernel_rfl) (fun _ _ _ h => h) ?hy50 (by assumption) ?rest50
      case hy50 => (refine Or.inl ⟨by rfl, ?_⟩; intro W hSw; (try dsimp only at hSw); go_simp; (try with_reducible rfl))
      try simp only [Act.put, List.setIfInBounds_toArray, List.set_cons_zero, List.set_cons_succ]
      refine wpAnyH_take (i := 12) (oi := { dst := some 17, op := Op.move (Operand.tmp 16), type := 4, pos := "change.go:79", after := #[{ on := 11, ground := Ground.data }, { on := 2, ground := Ground.chain }], guard := none }) (v := ?vv51) rfl (by kernel_rfl) (by kernel_rfl) (by kernel_rfl) (fun _ _ _ h => h) ?hy51 (by assumption) ?rest51
      case hy51 => (refine Or.inl ⟨by rfl, ?_⟩; intro W hSw; (try dsimp only at hSw); go_simp; (try with_reducible rfl))
      try simp only [Act.put, List.setIfInBounds_toArray, List.set_cons_zero, List.set_cons_succ]
      refine wpAnyH_take (i := 13) (oi := { dst := some 18, op := Op.move (Operand.tmp 0), type := 23, pos := "change.go:79", after := #[{ on := 12, ground := Ground.guard }], guard := some (12, true) }) (v := undef) rfl (by kernel_rfl) (by kernel_rfl) (by kernel_rfl) (fun _ _ _ h => h) ?hy52 (by assumption) ?rest52
      case hy52 => (exact Or.inr ⟨by rfl, rfl⟩)
      try simp only [Act.put, List.setIfInBounds_toArray, List.set_cons_zero, List.set_cons_succ]
      refine wpAnyH_take (i := 14) (oi := { dst := some 19, op := Op.nilCheck (Operand.tmp 18), type := 0, pos := "change.go:79", after := #[{ on := 13, ground := Ground.data }, { on := 12, ground := Ground.guard }], guard := some (12, true) }) (v := undef) rfl (by kernel_rfl) (by kernel_rfl) (by kernel_rfl) (fun _ _ _ h => h) ?hy53 (by assumption) ?rest53
      case hy53 => (exact Or.inr ⟨by rfl, rfl⟩)
      try simp only [Act.put, List.setIfInBounds_toArray, List.set_cons_zero, List.set_cons_succ]
      refine wpAnyH_take (i := 15) (oi := { dst := some 20, op := Op.fieldAddr 64 (Operand.tmp 19) 1, type := 0, pos := "change.go:79", after := #[{ on := 14, ground := Ground.data }, { on := 12, ground := Ground.guard }], guard := some (12, true) }) (v := undef) rfl (by kernel_rfl) (by kernel_rfl) (by kernel_rfl) (fun _ _ _ h => h) ?hy54 (by assumption) ?rest54
      case hy54 => (exact Or.inr ⟨by rfl, rfl⟩)
      try simp only [Act.put, List.setIfInBounds_toArray, List.set_cons_zero, List.set_cons_succ]
      refine wpAnyH_take (i := 16) (oi := { dst := some 21, op := Op.load 29 (Operand.tmp 20), type := 29, pos := "change.go:79", after := #[{ on := 15, ground := Ground.data }, { on := 12, ground := Ground.guard }], guard := some (12, true) }) (v := undef) rfl (by kernel_rfl) (by kernel_rfl) (by kernel_rfl) (fun _ _ _ h => h) ?hy55 (by assumption) ?rest55
      case hy55 => (exact Or.inr ⟨by rfl, rfl⟩)
      try simp only [Act.put, List.setIfInBounds_toArray, List.set_cons_zero, List.set_cons_succ]
      refine wpAnyH_take (i := 17) (oi := { dst := some 22, op := Op.move (Operand.tmp 1), type := 3, pos := "change.go:79", after := #[{ on := 12, ground := Ground.guard }], guard := some (12, true) }) (v := undef) rfl (by kernel_rfl) (by kernel_rfl) (by kernel_rfl) (fun _ _ _ h => h) ?hy56 (by assumption) ?rest56
      case hy56 => (exact Or.inr ⟨by rfl, rfl⟩)
      try simp only [Act.put, List.setIfInBounds_toArray, List.set_cons_zero, List.set_cons_succ]
      refine wpAnyH_take (i := 18) (oi := { dst := some 23, op := Op.indexAddr 29 (Operand.tmp 21) (Operand.tmp 22), type := 0, pos := "change.go:79", after := #[{ on := 16, ground := Ground.data }, { on := 17, ground := Ground.data }, { on := 12, ground := Ground.guard }], guard := some (12, true) }) (v := undef) rfl (by kernel_rfl) (by kernel_rfl) (by kernel_rfl) (fun _ _ _ h => h) ?hy57 (by assumption) ?rest57
      case hy57 => (exact Or.inr ⟨by rfl, rfl⟩)
      try simp only [Act.put, List.setIfInBounds_toArray, List.set_cons_zero, List.set_cons_succ]
      refine wpAnyH_take (i := 19) (oi := { dst := some 24, op := Op.load 40 (Operand.tmp 23), type := 40, pos := "change.go:79", after := #[{ on := 18, ground := Ground.data }, { on := 12, ground := Ground.guard }], guard := some (12, true) }) (v := undef) rfl (by kernel_rfl) (by kernel_rfl) (by kernel_rfl) (fun _ _ _ h => h) ?hy58 (by assumption) ?rest58
      case hy58 => (exact Or.inr ⟨by rfl, rfl⟩)
      try simp only [Act.put, List.setIfInBounds_toArray, List.set_cons_zero, List.set_cons_succ]
      refine wpAnyH_take (i := 20) (oi := { dst := some 25, op := Op.call { callee := Callee.builtin Builtin.len, args := #[Operand.tmp 24], argTypes := #[40] }, type := 3, pos := "change.go:79", after := #[{ on := 19, ground := Ground.data }, { on := 12, ground := Ground.guard }], guard := some (12, true) }) (v := undef) rfl (by kernel_rfl) (by kernel_rfl) (by kernel_rfl) (fun _ _ _ h => h) ?hy59 (by assumption) ?rest59
      case hy59 => (exact Or.inr ⟨by rfl, rfl⟩)
      try simp only [Act.put, List.setIfInBounds_toArray, List.set_cons_zero, List.set_cons_succ]
      refine wpAnyH_take (i := 21) (oi := { dst := some 26, op := Op.move (Operand.tmp 0), type := 23, pos := "change.go:79", after := #[{ on := 12, ground := Ground.guard }], guard := some (12, true) }) (v := undef) rfl (by kernel_rfl) (by kernel_rfl) (by kernel_rfl) (fun _ _ _ h => h) ?hy60 (by assumption) ?rest60
      case hy60 => (exact Or.inr ⟨by rfl, rfl⟩)
      try simp only [Act.put, List.setIfInBounds_toArray, List.set_cons_zero, List.set_cons_succ]
      refine wpAnyH_take (i := 22) (oi := { dst := some 27, op := Op.nilCheck (Operand.tmp 26), type := 0, pos := "change.go:79", after := #[{ on := 21, ground := Ground.data }, { on := 12, ground := Ground.guard }], guard := some (12, true) }) (v := undef) rfl (by kernel_rfl) (by kernel_rfl) (by kernel_rfl) (fun _ _ _ h => h) ?hy61 (by assumption) ?rest61
      case hy61 => (exact Or.inr ⟨by rfl, rfl⟩)
      try simp only [Act.put, List.setIfInBounds_toArray, List.set_cons_zero, List.set_cons_succ]
      refine wpAnyH_take (i := 23) (oi := { dst := some 28, op := Op.fieldAddr 64 (Operand.tmp 27) 1, type := 0, pos := "change.go:79", after := #[{ on := 22, ground := Ground.data }, { on := 12, ground := Ground.guard }], guard := some (12, true) }) (v := undef) rfl (by kernel_rfl) (by kernel_rfl) (by kernel_rfl) (fun _ _ _ h => h) ?hy62 (by assumption) ?rest62
      case hy62 => (exact Or.inr ⟨by rfl, rfl⟩)
      try simp only [Act.put, List.setIfInBounds_toArray, List.set_cons_zero, List.set_cons_succ]
      refine wpAnyH_take (i := 24) (oi := { dst := some 29, op := Op.load 29 (Operand.tmp 28), type := 29, pos := "change.go:79", after := #[{ on := 23, ground := Ground.data }, { on := 12, ground := Ground.guard }], guard := some (12, true) }) (v := undef) rfl (by kernel_rfl) (by kernel_rfl) (by kernel_rfl) (fun _ _ _ h => h) ?hy63 (by assumption) ?rest63
      case hy63 => (exact Or.inr ⟨by rfl, rfl⟩)
      try simp only [Act.put, List.setIfInBounds_toArray, List.set_cons_zero, List.set_cons_succ]
      refine wpAnyH_take (i := 25) (oi := { dst := some 30, op := Op.move (Operand.tmp 1), type := 3, pos := "change.go:79", after := #[{ on := 12, ground := Ground.guard }], guard := some (12, true) }) (v := undef) rfl (by kernel_rfl) (by kernel_rfl) (by kernel_rfl) (fun _ _ _ h => h) ?hy64 (by assumption) ?rest64
      case hy64 => (exact Or.inr ⟨by rfl, rfl⟩)
      try simp only [Act.put, List.setIfInBounds_toArray, List.set_cons_zero, List.set_cons_succ]
      refine wpAnyH_take (i := 26) (oi := { dst := some 31, op := Op.binOp BinOp.add 3 (Operand.tmp 30) (Operand.const (Value.int IntKind.i64 1)) 3, type := 3, pos := "change.go:79", after := #[{ on := 25, ground := Ground.data }, { on := 12, ground := Ground.guard }], guard := some (12, true) }) (v := undef) rfl (by kernel_rfl) (by kernel_rfl) (by kernel_rfl) (fun _ _ _ h => h) ?hy65 (by assumption) ?rest65
      case hy65 => (exact Or.inr ⟨by rfl, rfl⟩)
      try simp only [Act.put, List.setIfInBounds_toArray, List.set_cons_zero, List.set_cons_succ]
      refine wpAnyH_take (i := 27) (oi := { dst := some 32, op := Op.indexAddr 29 (Operand.tmp 29) (Operand.tmp 31), type := 0, pos := "change.go:79", after := #[{ on := 24, ground := Ground.data }, { on := 26, ground := Ground.data }, { on := 12, ground := Ground.guard }], guard := some (12, true) }) (v := undef) rfl (by kernel_rfl) (by kernel_rfl) (by kernel_rfl) (fun _ _ _ h => h) ?hy66 (by assumption) ?rest66
      case hy66 => (exact Or.inr ⟨by rfl, rfl⟩)
      try simp only [Act.put, List.setIfInBounds_toArray, List.set_cons_zero, List.set_cons_succ]
      refine wpAnyH_take (i := 28) (oi := { dst := some 33, op := Op.load 40 (Operand.tmp 32), type := 40, pos := "change.go:79", after := #[{ on := 27, ground := Ground.data }, { on := 12, ground := Ground.guard }], guard := some (12, true) }) (v := undef) rfl (by kernel_rfl) (by kernel_rfl) (by kernel_rfl) (fun _ _ _ h => h) ?hy67 (by assumption) ?rest67
      case hy67 => (exact Or.inr ⟨by rfl, rfl⟩)
      try simp only [Act.put, List.setIfInBounds_toArray, List.set_cons_zero, List.set_cons_succ]
      refine wpAnyH_take (i := 29) (oi := { dst := some 34, op := Op.call { callee := Callee.builtin Builtin.len, args := #[Operand.tmp 33], argTypes := #[40] }, type := 3, pos := "change.go:79", after := #[{ on := 28, ground := Ground.data }, { on := 12, ground := Ground.guard }], guard := some (12, true) }) (v := undef) rfl (by kernel_rfl) (by kernel_rfl) (by kernel_rfl) (fun _ _ _ h => h) ?hy68 (by assumption) ?rest68
      case hy68 => (exact Or.inr ⟨by rfl, rfl⟩)
      try simp only [Act.put, List.setIfInBounds_toArray, List.set_cons_zero, List.set_cons_succ]
      refine wpAnyH_take (i := 30) (oi := { dst := some 35, op := Op.binOp BinOp.add 3 (Operand.tmp 25) (Operand.tmp 34) 3, type := 3, pos := "change.go:79", after := #[{ on := 20, ground := Ground.data }, { on := 29, ground := Ground.data }, { on := 12, ground := Ground.guard }], guard := some (12, true) }) (v := undef) rfl (by kernel_rfl) (by kernel_rfl) (by kernel_rfl) (fun _ _ _ h => h) ?hy69 (by assumption) ?rest69
      case hy69 => (exact Or.inr ⟨by rfl, rfl⟩)
      try simp only [Act.put, List.setIfInBounds_toArray, List.set_cons_zero, List.set_cons_succ]
      refine wpAnyH_take (i := 31) (oi := { dst := some 36, op := Op.move (Operand.tmp 0), type := 23, pos := "change.go:79", after := #[{ on := 12, ground := Ground.guard }], guard := some (12, true) }) (v := undef) rfl (by kernel_rfl) (by kernel_rfl) (by kernel_rfl) (fun _ _ _ h => h) ?hy70 (by assumption) ?rest70
      case hy70 => (exact Or.inr ⟨by rfl, rfl⟩)
      try simp only [Act.put, List.setIfInBounds_toArray, List.set_cons_zero, List.set_cons_succ]
      refine wpAnyH_take (i := 32) (oi := { dst := some 37, op := Op.nilCheck (Operand.tmp 36), type := 0, pos := "change.go:79", after := #[{ on := 31, ground := Ground.data }, { on := 12, ground := Ground.guard }], guard := some (12, true) }) (v := undef) rfl (by kernel_rfl) (by kernel_rfl) (by kernel_rfl) (fun _ _ _ h => h) ?hy71 (by assumption) ?rest71
      case hy71 => (exact Or.inr ⟨by rfl, rfl⟩)
      try simp only [Act.put, List.setIfInBounds_toArray, List.set_cons_zero, List.set_cons_succ]
      refine wpAnyH_take (i := 33) (oi := { dst := some 38, op := Op.fieldAddr 64 (Operand.tmp 37) 0, type := 0, pos := "change.go:79", after := #[{ on := 32, ground := Ground.data }, { on := 12, ground := Ground.guard }], guard := some (12, true) }) (v := undef) rfl (by kernel_rfl) (by kernel_rfl) (by kernel_rfl) (fun _ _ _ h => h) ?hy72 (by assumption) ?rest72
      case hy72 => (exact Or.inr ⟨by rfl, rfl⟩)
      try simp only [Act.put, List.setIfInBounds_toArray, List.set_cons_zero, List.set_cons_succ]
      refine wpAnyH_take (i := 34) (oi := { dst := some 39, op := Op.load 3 (Operand.tmp 38), type := 3, pos := "change.go:79", after := #[{ on := 33, ground := Ground.data }, { on := 12, ground := Ground.guard }], guard := some (12, true) }) (v := undef) rfl (by kernel_rfl) (by kernel_rfl) (by kernel_rfl) (fun _ _ _ h => h) ?hy73 (by assumption) ?rest73
      case hy73 => (exact Or.inr ⟨by rfl, rfl⟩)
      try simp only [Act.put, List.setIfInBounds_toArray, List.set_cons_zero, List.set_cons_succ]
      refine wpAnyH_take (i := 35) (oi := { dst := some 40, op := Op.binOp BinOp.leq 3 (Operand.tmp 35) (Operand.tmp 39) 3, type := 4, pos := "change.go:79", after := #[{ on := 30, ground := Ground.data }, { on := 34, ground := Ground.data }, { on := 12, ground := Ground.guard }], guard := some (12, true) }) (v := undef) rfl (by kernel_rfl) (by kernel_rfl) (by kernel_rfl) (fun _ _ _ h => h) ?hy74 (by assumption) ?rest74
      case hy74 => (exact Or.inr ⟨by rfl, rfl⟩)
      try simp only [Act.put, List.setIfInBounds_toArray, List.set_cons_zero, List.set_cons_succ]
      refine wpAnyH_take (i := 36) (oi := { dst := some 41, op := Op.pick (Operand.tmp 17) (Operand.tmp 40) (Operand.const (Value.bool false)), type := 4, pos := "change.go:79", after := #[{ on := 12, ground := Ground.data }, { on := 35, ground := Ground.data }], guard := none }) (v := ?vv75) rfl (by kernel_rfl) (by kernel_rfl) (by kernel_rfl) (fun _ _ _ h => h) ?hy75 (by assumption) ?rest75
      case hy75 => (refine Or.inl ⟨by rfl, ?_⟩; intro W hSw; (try dsimp only at hSw); go_simp; (try with_reducible rfl))
      try simp only [Act.put, List.setIfInBounds_toArray, List.set_cons_zero, List.set_cons_succ]
      refine wpAnyH_take (i := 37) (oi := { dst := some 4, op := Op.assign (Operand.tmp 41), type := 4, pos := "change.go:79", after := #[{ on := 36, ground := Ground.data }, { on := 12, ground := Ground.chain }, { on := 0, ground := Ground.phase }, { on := 1, ground := Ground.phase }, { on := 2, ground := Ground.phase }, { on := 3, ground := Ground.phase }, { on := 4, ground := Ground.phase }, { on := 5, ground := Ground.phase }, { on := 6, ground := Ground.phase }, { on := 7, ground := Ground.phase }, { on := 8, ground := Ground.phase }, { on := 9, ground := Ground.phase }, { on := 10, ground := Ground.phase }, { on := 11, ground := Ground.phase }, { on := 12, ground := Ground.phase }, { on := 13, ground := Ground.phase }, { on := 14, ground := Ground.phase }, { on := 15, ground := Ground.phase }, { on := 16, ground := Ground.phase }, { on := 17, ground := Ground.phase }, { on := 18, ground := Ground.phase }, { on := 19, ground := Ground.phase }, { on := 20, ground := Ground.phase }, { on := 21, ground := Ground.phase }, { on := 22, ground := Ground.phase }, { on := 23, ground := Ground.phase }, { on := 24, ground := Ground.phase }, { on := 25, ground := Ground.phase }, { on := 26, ground := Ground.phase }, { on := 27, ground := Ground.phase }, { on := 28, ground := Ground.phase }, { on := 29, ground := Ground.phase }, { on := 30, ground := Ground.phase }, { on := 31, ground := Ground.phase }, { on := 32, ground := Ground.phase }, { on := 33, ground := Ground.phase }, { on := 34, ground := Ground.phase }, { on := 35, ground := Ground.phase }, { on := 36, ground := Ground.phase }], guard := none }) (v := ?vv76) rfl (by kernel_rfl) (by kernel_rfl) (by kernel_rfl) (fun _ _ _ h => h) ?hy76 (by assumption) ?rest76
      case hy76 => (refine Or.inl ⟨by rfl, ?_⟩; intro W hSw; (try dsimp only at hSw); go_simp; (try with_reducible rfl))
      try simp only [Act.put, List.setIfInBounds_toArray, List.set_cons_zero, List.set_cons_succ]
      refine wpAnyH_done (by kernel_rfl) ?_ _
      clear hHeld
      dsimp only [onlyN]
      go_wp2_with fail
      go_ret
      exact ⟨by simp, below_drew (Below.refl _ _)⟩
  · have hJ : joinsP most P i = false := by unfold joinsP; rw [decide_eq_false h1]; simp
    rw [hJ]
    clear h
    go_enter Tryz.func74, Tryz.ntmps74
    go_wp2_with fail
    refine wp_only ?_
    refine wp_region_held_drew (S := fun W => True) (by kernel_rfl) trivial (fun hHeld => ?_)
    refine wpAnyH_take (i := 0) (oi := { dst := some 5, op := Op.move (Operand.tmp 1), type := 3, pos := "change.go:79", after := #[], guard := none }) (v := ?vv77) rfl (by kernel_rfl) (by kernel_rfl) (by kernel_rfl) (fun _ _ _ h => h) ?hy77 (by assumption) ?rest77
    case hy77 => (refine Or.inl ⟨by rfl, ?_⟩; intro W hSw; (try dsimp only at hSw); go_simp; (try with_reducible rfl))
    try simp only [Act.put, List.setIfInBounds_toArray, List.set_cons_zero, List.set_cons_succ]
    refine wpAnyH_take (i := 1) (oi := { dst := some 6, op := Op.binOp BinOp.geq 3 (Operand.tmp 5) (Operand.const (Value.int IntKind.i64 0)) 3, type := 4, pos := "change.go:79", after := #[{ on := 0, ground := Ground.data }], guard := none }) (v := (.bool false)) rfl (by kernel_rfl) (by kernel_rfl) (by kernel_rfl) (fun _ _ _ h => h) ?hy78 (by assumption) ?rest78
    case hy78 => ((refine Or.inl ⟨by rfl, ?_⟩; intro W hSw; go_simp; done))
    try simp only [Act.put, List.setIfInBounds_toArray, List.set_cons_zero, List.set_cons_succ]
    refine wpAnyH_take (i := 2) (oi := { dst := some 7, op := Op.move (Operand.tmp 6), type := 4, pos := "change.go:79", after := #[{ on := 1, ground := Ground.data }], guard := none }) (v := ?vv79) rfl (by kernel_rfl) (by kernel_rfl) (by kernel_rfl) (fun _ _ _ h => h) ?hy79 (by assumption) ?rest79
    case hy79 => (refine Or.inl ⟨by rfl, ?_⟩; intro W hSw; (try dsimp only at hSw); go_simp; (try with_reducible rfl))
    try simp only [Act.put, List.setIfInBounds_toArray, List.set_cons_zero, List.set_cons_succ]
    refine wpAnyH_take (i := 3) (oi := { dst := some 8, op := Op.move (Operand.tmp 1), type := 3, pos := "change.go:79", after := #[{ on := 2, ground := Ground.guard }], guard := some (2, true) }) (v := undef) rfl (by kernel_rfl) (by kernel_rfl) (by kernel_rfl) (fun _ _ _ h => h) ?hy80 (by assumption) ?rest80
    case hy80 => (exact Or.inr ⟨by rfl, rfl⟩)
    try simp only [Act.put, List.setIfInBounds_toArray, List.set_cons_zero, List.set_cons_succ]
    refine wpAnyH_take (i := 4) (oi := { dst := some 9, op := Op.binOp BinOp.add 3 (Operand.tmp 8) (Operand.const (Value.int IntKind.i64 1)) 3, type := 3, pos := "change.go:79", after := #[{ on := 3, ground := Ground.data }, { on := 2, ground := Ground.guard }], guard := some (2, true) }) (v := undef) rfl (by kernel_rfl) (by kernel_rfl) (by kernel_rfl) (fun _ _ _ h => h) ?hy81 (by assumption) ?rest81
    case hy81 => (exact Or.inr ⟨by rfl, rfl⟩)
    try simp only [Act.put, List.setIfInBounds_toArray, List.set_cons_zero, List.set_cons_succ]
    refine wpAnyH_take (i := 5) (oi := { dst := some 10, op := Op.move (Operand.tmp 0), type := 23, pos := "change.go:79", after := #[{ on := 2, ground := Ground.guard }], guard := some (2, true) }) (v := undef) rfl (by kernel_rfl) (by kernel_rfl) (by kernel_rfl) (fun _ _ _ h => h) ?hy82 (by assumption) ?rest82
    case hy82 => (exact Or.inr ⟨by rfl, rfl⟩)
    try simp only [Act.put, List.setIfInBounds_toArray, List.set_cons_zero, List.set_cons_succ]
    refine wpAnyH_take (i := 6) (oi := { dst := some 11, op := Op.nilCheck (Operand.tmp 10), type := 0, pos := "change.go:79", after := #[{ on := 5, ground := Ground.data }, { on := 2, ground := Ground.guard }], guard := some (2, true) }) (v := undef) rfl (by kernel_rfl) (by kernel_rfl) (by kernel_rfl) (fun _ _ _ h => h) ?hy83 (by assumption) ?rest83
    case hy83 => (exact Or.inr ⟨by rfl, rfl⟩)
    try simp only [Act.put, List.setIfInBounds_toArray, List.set_cons_zero, List.set_cons_succ]
    refine wpAnyH_take (i := 7) (oi := { dst := some 12, op := Op.fieldAddr 64 (Operand.tmp 11) 1, type := 0, pos := "change.go:79", after := #[{ on := 6, ground := Ground.data }, { on := 2, ground := Ground.guard }], guard := some (2, true) }) (v := undef) rfl (by kernel_rfl) (by kernel_rfl) (by kernel_rfl) (fun _ _ _ h => h) ?hy84 (by assumption) ?rest84
    case hy84 => (exact Or.inr ⟨by rfl, rfl⟩)
    try simp only [Act.put, List.setIfInBounds_toArray, List.set_cons_zero, List.set_cons_succ]
    refine wpAnyH_take (i := 8) (oi := { dst := some 13, op := Op.load 29 (Operand.tmp 12), type := 29, pos := "change.go:79", after := #[{ on := 7, ground := Ground.data }, { on := 2, ground := Ground.guard }], guard := some (2, true) }) (v := undef) rfl (by kernel_rfl) (by kernel_rfl) (by kernel_rfl) (fun _ _ _ h => h) ?hy85 (by assumption) ?rest85
    case hy85 => (exact Or.inr ⟨by rfl, rfl⟩)
    try simp only [Act.put, List.setIfInBounds_toArray, List.set_cons_zero, List.set_cons_succ]
    refine wpAnyH_take (i := 9) (oi := { dst := some 14, op := Op.call { callee := Callee.builtin Builtin.len, args := #[Operand.tmp 13], argTypes := #[29] }, type := 3, pos := "change.go:79", after := #[{ on := 8, ground := Ground.data }, { on := 2, ground := Ground.guard }], guard := some (2, true) }) (v := undef) rfl (by kernel_rfl) (by kernel_rfl) (by kernel_rfl) (fun _ _ _ h => h) ?hy86 (by assumption) ?rest86
    case hy86 => (exact Or.inr ⟨by rfl, rfl⟩)
    try simp only [Act.put, List.setIfInBounds_toArray, List.set_cons_zero, List.set_cons_succ]
    refine wpAnyH_take (i := 10) (oi := { dst := some 15, op := Op.binOp BinOp.lss 3 (Operand.tmp 9) (Operand.tmp 14) 3, type := 4, pos := "change.go:79", after := #[{ on := 4, ground := Ground.data }, { on := 9, ground := Ground.data }, { on := 2, ground := Ground.guard }], guard := some (2, true) }) (v := undef) rfl (by kernel_rfl) (by kernel_rfl) (by kernel_rfl) (fun _ _ _ h => h) ?hy87 (by assumption) ?rest87
    case hy87 => (exact Or.inr ⟨by rfl, rfl⟩)
    try simp only [Act.put, List.setIfInBounds_toArray, List.set_cons_zero, List.set_cons_succ]
    refine wpAnyH_take (i := 11) (oi := { dst := some 16, op := Op.pick (Operand.tmp 7) (Operand.tmp 15) (Operand.const (Value.bool false)), type := 4, pos := "change.go:79", after := #[{ on := 2, ground := Ground.data }, { on := 10, ground := Ground.data }], guard := none }) (v := ?vv88) rfl (by kernel_rfl) (by kernel_rfl) (by kernel_rfl) (fun _ _ _ h => h) ?hy88 (by assumption) ?rest88
    case hy88 => (refine Or.inl ⟨by rfl, ?_⟩; intro W hSw; (try dsimp only at hSw); go_simp; (try with_reducible rfl))
    try simp only [Act.put, List.setIfInBounds_toArray, List.set_cons_zero, List.set_cons_succ]
    refine wpAnyH_take (i := 12) (oi := { dst := some 17, op := Op.move (Operand.tmp 16), type := 4, pos := "change.go:79", after := #[{ on := 11, ground := Ground.data }, { on := 2, ground := Ground.chain }], guard := none }) (v := ?vv89) rfl (by kernel_rfl) (by kernel_rfl) (by kernel_rfl) (fun _ _ _ h => h) ?hy89 (by assumption) ?rest89
    case hy89 => (refine Or.inl ⟨by rfl, ?_⟩; intro W hSw; (try dsimp only at hSw); go_simp; (try with_reducible rfl))
    try simp only [Act.put, List.setIfInBounds_toArray, List.set_cons_zero, List.set_cons_succ]
    refine wpAnyH_take (i := 13) (oi := { dst := some 18, op := Op.move (Operand.tmp 0), type := 23, pos := "change.go:79", after := #[{ on := 12, ground := Ground.guard }], guard := some (12, true) }) (v := undef) rfl (by kernel_rfl) (by kernel_rfl) (by kernel_rfl) (fun _ _ _ h => h) ?hy90 (by assumption) ?rest90
    case hy90 => (exact Or.inr ⟨by rfl, rfl⟩)
    try simp only [Act.put, List.setIfInBounds_toArray, List.set_cons_zero, List.set_cons_succ]
    refine wpAnyH_take (i := 14) (oi := { dst := some 19, op := Op.nilCheck (Operand.tmp 18), type := 0, pos := "change.go:79", after := #[{ on := 13, ground := Ground.data }, { on := 12, ground := Ground.guard }], guard := some (12, true) }) (v := undef) rfl (by kernel_rfl) (by kernel_rfl) (by kernel_rfl) (fun _ _ _ h => h) ?hy91 (by assumption) ?rest91
    case hy91 => (exact Or.inr ⟨by rfl, rfl⟩)
    try simp only [Act.put, List.setIfInBounds_toArray, List.set_cons_zero, List.set_cons_succ]
    refine wpAnyH_take (i := 15) (oi := { dst := some 20, op := Op.fieldAddr 64 (Operand.tmp 19) 1, type := 0, pos := "change.go:79", after := #[{ on := 14, ground := Ground.data }, { on := 12, ground := Ground.guard }], guard := some (12, true) }) (v := undef) rfl (by kernel_rfl) (by kernel_rfl) (by kernel_rfl) (fun _ _ _ h => h) ?hy92 (by assumption) ?rest92
    case hy92 => (exact Or.inr ⟨by rfl, rfl⟩)
    try simp only [Act.put, List.setIfInBounds_toArray, List.set_cons_zero, List.set_cons_succ]
    refine wpAnyH_take (i := 16) (oi := { dst := some 21, op := Op.load 29 (Operand.tmp 20), type := 29, pos := "change.go:79", after := #[{ on := 15, ground := Ground.data }, { on := 12, ground := Ground.guard }], guard := some (12, true) }) (v := undef) rfl (by kernel_rfl) (by kernel_rfl) (by kernel_rfl) (fun _ _ _ h => h) ?hy93 (by assumption) ?rest93
    case hy93 => (exact Or.inr ⟨by rfl, rfl⟩)
    try simp only [Act.put, List.setIfInBounds_toArray, List.set_cons_zero, List.set_cons_succ]
    refine wpAnyH_take (i := 17) (oi := { dst := some 22, op := Op.move (Operand.tmp 1), type := 3, pos := "change.go:79", after := #[{ on := 12, ground := Ground.guard }], guard := some (12, true) }) (v := undef) rfl (by kernel_rfl) (by kernel_rfl) (by kernel_rfl) (fun _ _ _ h => h) ?hy94 (by assumption) ?rest94
    case hy94 => (exact Or.inr ⟨by rfl, rfl⟩)
    try simp only [Act.put, List.setIfInBounds_toArray, List.set_cons_zero, List.set_cons_succ]
    refine wpAnyH_take (i := 18) (oi := { dst := some 23, op := Op.indexAddr 29 (Operand.tmp 21) (Operand.tmp 22), type := 0, pos := "change.go:79", after := #[{ on := 16, ground := Ground.data }, { on := 17, ground := Ground.data }, { on := 12, ground := Ground.guard }], guard := some (12, true) }) (v := undef) rfl (by kernel_rfl) (by kernel_rfl) (by kernel_rfl) (fun _ _ _ h => h) ?hy95 (by assumption) ?rest95
    case hy95 => (exact Or.inr ⟨by rfl, rfl⟩)
    try simp only [Act.put, List.setIfInBounds_toArray, List.set_cons_zero, List.set_cons_succ]
    refine wpAnyH_take (i := 19) (oi := { dst := some 24, op := Op.load 40 (Operand.tmp 23), type := 40, pos := "change.go:79", after := #[{ on := 18, ground := Ground.data }, { on := 12, ground := Ground.guard }], guard := some (12, true) }) (v := undef) rfl (by kernel_rfl) (by kernel_rfl) (by kernel_rfl) (fun _ _ _ h => h) ?hy96 (by assumption) ?rest96
    case hy96 => (exact Or.inr ⟨by rfl, rfl⟩)
    try simp only [Act.put, List.setIfInBounds_toArray, List.set_cons_zero, List.set_cons_succ]
    refine wpAnyH_take (i := 20) (oi := { dst := some 25, op := Op.call { callee := Callee.builtin Builtin.len, args := #[Operand.tmp 24], argTypes := #[40] }, type := 3, pos := "change.go:79", after := #[{ on := 19, ground := Ground.data }, { on := 12, ground := Ground.guard }], guard := some (12, true) }) (v := undef) rfl (by kernel_rfl) (by kernel_rfl) (by kernel_rfl) (fun _ _ _ h => h) ?hy97 (by assumption) ?rest97
    case hy97 => (exact Or.inr ⟨by rfl, rfl⟩)
    try simp only [Act.put, List.setIfInBounds_toArray, List.set_cons_zero, List.set_cons_succ]
    refine wpAnyH_take (i := 21) (oi := { dst := some 26, op := Op.move (Operand.tmp 0), type := 23, pos := "change.go:79", after := #[{ on := 12, ground := Ground.guard }], guard := some (12, true) }) (v := undef) rfl (by kernel_rfl) (by kernel_rfl) (by kernel_rfl) (fun _ _ _ h => h) ?hy98 (by assumption) ?rest98
    case hy98 => (exact Or.inr ⟨by rfl, rfl⟩)
    try simp only [Act.put, List.setIfInBounds_toArray, List.set_cons_zero, List.set_cons_succ]
    refine wpAnyH_take (i := 22) (oi := { dst := some 27, op := Op.nilCheck (Operand.tmp 26), type := 0, pos := "change.go:79", after := #[{ on := 21, ground := Ground.data }, { on := 12, ground := Ground.guard }], guard := some (12, true) }) (v := undef) rfl (by kernel_rfl) (by kernel_rfl) (by kernel_rfl) (fun _ _ _ h => h) ?hy99 (by assumption) ?rest99
    case hy99 => (exact Or.inr ⟨by rfl, rfl⟩)
    try simp only [Act.put, List.setIfInBounds_toArray, List.set_cons_zero, List.set_cons_succ]
    refine wpAnyH_take (i := 23) (oi := { dst := some 28, op := Op.fieldAddr 64 (Operand.tmp 27) 1, type := 0, pos := "change.go:79", after := #[{ on := 22, ground := Ground.data }, { on := 12, ground := Ground.guard }], guard := some (12, true) }) (v := undef) rfl (by kernel_rfl) (by kernel_rfl) (by kernel_rfl) (fun _ _ _ h => h) ?hy100 (by assumption) ?rest100
    case hy100 => (exact Or.inr ⟨by rfl, rfl⟩)
    try simp only [Act.put, List.setIfInBounds_toArray, List.set_cons_zero, List.set_cons_succ]
    refine wpAnyH_take (i := 24) (oi := { dst := some 29, op := Op.load 29 (Operand.tmp 28), type := 29, pos := "change.go:79", after := #[{ on := 23, ground := Ground.data }, { on := 12, ground := Ground.guard }], guard := some (12, true) }) (v := undef) rfl (by kernel_rfl) (by kernel_rfl) (by kernel_rfl) (fun _ _ _ h => h) ?hy101 (by assumption) ?rest101
    case hy101 => (exact Or.inr ⟨by rfl, rfl⟩)
    try simp only [Act.put, List.setIfInBounds_toArray, List.set_cons_zero, List.set_cons_succ]
    refine wpAnyH_take (i := 25) (oi := { dst := some 30, op := Op.move (Operand.tmp 1), type := 3, pos := "change.go:79", after := #[{ on := 12, ground := Ground.guard }], guard := some (12, true) }) (v := undef) rfl (by kernel_rfl) (by kernel_rfl) (by kernel_rfl) (fun _ _ _ h => h) ?hy102 (by assumption) ?rest102
    case hy102 => (exact Or.inr ⟨by rfl, rfl⟩)
    try simp only [Act.put, List.setIfInBounds_toArray, List.set_cons_zero, List.set_cons_succ]
    refine wpAnyH_take (i := 26) (oi := { dst := some 31, op := Op.binOp BinOp.add 3 (Operand.tmp 30) (Operand.const (Value.int IntKind.i64 1)) 3, type := 3, pos := "change.go:79", after := #[{ on := 25, ground := Ground.data }, { on := 12, ground := Ground.guard }], guard := some (12, true) }) (v := undef) rfl (by kernel_rfl) (by kernel_rfl) (by kernel_rfl) (fun _ _ _ h => h) ?hy103 (by assumption) ?rest103
    case hy103 => (exact Or.inr ⟨by rfl, rfl⟩)
    try simp only [Act.put, List.setIfInBounds_toArray, List.set_cons_zero, List.set_cons_succ]
    refine wpAnyH_take (i := 27) (oi := { dst := some 32, op := Op.indexAddr 29 (Operand.tmp 29) (Operand.tmp 31), type := 0, pos := "change.go:79", after := #[{ on := 24, ground := Ground.data }, { on := 26, ground := Ground.data }, { on := 12, ground := Ground.guard }], guard := some (12, true) }) (v := undef) rfl (by kernel_rfl) (by kernel_rfl) (by kernel_rfl) (fun _ _ _ h => h) ?hy104 (by assumption) ?rest104
    case hy104 => (exact Or.inr ⟨by rfl, rfl⟩)
    try simp only [Act.put, List.setIfInBounds_toArray, List.set_cons_zero, List.set_cons_succ]
    refine wpAnyH_take (i := 28) (oi := { dst := some 33, op := Op.load 40 (Operand.tmp 32), type := 40, pos := "change.go:79", after := #[{ on := 27, ground := Ground.data }, { on := 12, ground := Ground.guard }], guard := some (12, true) }) (v := undef) rfl (by kernel_rfl) (by kernel_rfl) (by kernel_rfl) (fun _ _ _ h => h) ?hy105 (by assumption) ?rest105
    case hy105 => (exact Or.inr ⟨by rfl, rfl⟩)
    try simp only [Act.put, List.setIfInBounds_toArray, List.set_cons_zero, List.set_cons_succ]
    refine wpAnyH_take (i := 29) (oi := { dst := some 34, op := Op.call { callee := Callee.builtin Builtin.len, args := #[Operand.tmp 33], argTypes := #[40] }, type := 3, pos := "change.go:79", after := #[{ on := 28, ground := Ground.data }, { on := 12, ground := Ground.guard }], guard := some (12, true) }) (v := undef) rfl (by kernel_rfl) (by kernel_rfl) (by kernel_rfl) (fun _ _ _ h => h) ?hy106 (by assumption) ?rest106
    case hy106 => (exact Or.inr ⟨by rfl, rfl⟩)
    try simp only [Act.put, List.setIfInBounds_toArray, List.set_cons_zero, List.set_cons_succ]
    refine wpAnyH_take (i := 30) (oi := { dst := some 35, op := Op.binOp BinOp.add 3 (Operand.tmp 25) (Operand.tmp 34) 3, type := 3, pos := "change.go:79", after := #[{ on := 20, ground := Ground.data }, { on := 29, ground := Ground.data }, { on := 12, ground := Ground.guard }], guard := some (12, true) }) (v := undef) rfl (by kernel_rfl) (by kernel_rfl) (by kernel_rfl) (fun _ _ _ h => h) ?hy107 (by assumption) ?rest107
    case hy107 => (exact Or.inr ⟨by rfl, rfl⟩)
    try simp only [Act.put, List.setIfInBounds_toArray, List.set_cons_zero, List.set_cons_succ]
    refine wpAnyH_take (i := 31) (oi := { dst := some 36, op := Op.move (Operand.tmp 0), type := 23, pos := "change.go:79", after := #[{ on := 12, ground := Ground.guard }], guard := some (12, true) }) (v := undef) rfl (by kernel_rfl) (by kernel_rfl) (by kernel_rfl) (fun _ _ _ h => h) ?hy108 (by assumption) ?rest108
    case hy108 => (exact Or.inr ⟨by rfl, rfl⟩)
    try simp only [Act.put, List.setIfInBounds_toArray, List.set_cons_zero, List.set_cons_succ]
    refine wpAnyH_take (i := 32) (oi := { dst := some 37, op := Op.nilCheck (Operand.tmp 36), type := 0, pos := "change.go:79", after := #[{ on := 31, ground := Ground.data }, { on := 12, ground := Ground.guard }], guard := some (12, true) }) (v := undef) rfl (by kernel_rfl) (by kernel_rfl) (by kernel_rfl) (fun _ _ _ h => h) ?hy109 (by assumption) ?rest109
    case hy109 => (exact Or.inr ⟨by rfl, rfl⟩)
    try simp only [Act.put, List.setIfInBounds_toArray, List.set_cons_zero, List.set_cons_succ]
    refine wpAnyH_take (i := 33) (oi := { dst := some 38, op := Op.fieldAddr 64 (Operand.tmp 37) 0, type := 0, pos := "change.go:79", after := #[{ on := 32, ground := Ground.data }, { on := 12, ground := Ground.guard }], guard := some (12, true) }) (v := undef) rfl (by kernel_rfl) (by kernel_rfl) (by kernel_rfl) (fun _ _ _ h => h) ?hy110 (by assumption) ?rest110
    case hy110 => (exact Or.inr ⟨by rfl, rfl⟩)
    try simp only [Act.put, List.setIfInBounds_toArray, List.set_cons_zero, List.set_cons_succ]
    refine wpAnyH_take (i := 34) (oi := { dst := some 39, op := Op.load 3 (Operand.tmp 38), type := 3, pos := "change.go:79", after := #[{ on := 33, ground := Ground.data }, { on := 12, ground := Ground.guard }], guard := some (12, true) }) (v := undef) rfl (by kernel_rfl) (by kernel_rfl) (by kernel_rfl) (fun _ _ _ h => h) ?hy111 (by assumption) ?rest111
    case hy111 => (exact Or.inr ⟨by rfl, rfl⟩)
    try simp only [Act.put, List.setIfInBounds_toArray, List.set_cons_zero, List.set_cons_succ]
    refine wpAnyH_take (i := 35) (oi := { dst := some 40, op := Op.binOp BinOp.leq 3 (Operand.tmp 35) (Operand.tmp 39) 3, type := 4, pos := "change.go:79", after := #[{ on := 30, ground := Ground.data }, { on := 34, ground := Ground.data }, { on := 12, ground := Ground.guard }], guard := some (12, true) }) (v := undef) rfl (by kernel_rfl) (by kernel_rfl) (by kernel_rfl) (fun _ _ _ h => h) ?hy112 (by assumption) ?rest112
    case hy112 => (exact Or.inr ⟨by rfl, rfl⟩)
    try simp only [Act.put, List.setIfInBounds_toArray, List.set_cons_zero, List.set_cons_succ]
    refine wpAnyH_take (i := 36) (oi := { dst := some 41, op := Op.pick (Operand.tmp 17) (Operand.tmp 40) (Operand.const (Value.bool false)), type := 4, pos := "change.go:79", after := #[{ on := 12, ground := Ground.data }, { on := 35, ground := Ground.data }], guard := none }) (v := ?vv113) rfl (by kernel_rfl) (by kernel_rfl) (by kernel_rfl) (fun _ _ _ h => h) ?hy113 (by assumption) ?rest113
    case hy113 => (refine Or.inl ⟨by rfl, ?_⟩; intro W hSw; (try dsimp only at hSw); go_simp; (try with_reducible rfl))
    try simp only [Act.put, List.setIfInBounds_toArray, List.set_cons_zero, List.set_cons_succ]
    refine wpAnyH_take (i := 37) (oi := { dst := some 4, op := Op.assign (Operand.tmp 41), type := 4, pos := "change.go:79", after := #[{ on := 36, ground := Ground.data }, { on := 12, ground := Ground.chain }, { on := 0, ground := Ground.phase }, { on := 1, ground := Ground.phase }, { on := 2, ground := Ground.phase }, { on := 3, ground := Ground.phase }, { on := 4, ground := Ground.phase }, { on := 5, ground := Ground.phase }, { on := 6, ground := Ground.phase }, { on := 7, ground := Ground.phase }, { on := 8, ground := Ground.phase }, { on := 9, ground := Ground.phase }, { on := 10, ground := Ground.phase }, { on := 11, ground := Ground.phase }, { on := 12, ground := Ground.phase }, { on := 13, ground := Ground.phase }, { on := 14, ground := Ground.phase }, { on := 15, ground := Ground.phase }, { on := 16, ground := Ground.phase }, { on := 17, ground := Ground.phase }, { on := 18, ground := Ground.phase }, { on := 19, ground := Ground.phase }, { on := 20, ground := Ground.phase }, { on := 21, ground := Ground.phase }, { on := 22, ground := Ground.phase }, { on := 23, ground := Ground.phase }, { on := 24, ground := Ground.phase }, { on := 25, ground := Ground.phase }, { on := 26, ground := Ground.phase }, { on := 27, ground := Ground.phase }, { on := 28, ground := Ground.phase }, { on := 29, ground := Ground.phase }, { on := 30, ground := Ground.phase }, { on := 31, ground := Ground.phase }, { on := 32, ground := Ground.phase }, { on := 33, ground := Ground.phase }, { on := 34, ground := Ground.phase }, { on := 35, ground := Ground.phase }, { on := 36, ground := Ground.phase }], guard := none }) (v := ?vv114) rfl (by kernel_rfl) (by kernel_rfl) (by kernel_rfl) (fun _ _ _ h => h) ?hy114 (by assumption) ?rest114
    case hy114 => (refine Or.inl ⟨by rfl, ?_⟩; intro W hSw; (try dsimp only at hSw); go_simp; (try with_reducible rfl))
    try simp only [Act.put, List.setIfInBounds_toArray, List.set_cons_zero, List.set_cons_succ]
    refine wpAnyH_done (by kernel_rfl) ?_ _
    clear hHeld
    dsimp only [onlyN]
    go_wp2_with fail
    go_ret
    exact ⟨by simp, below_drew (Below.refl _ _)⟩
end Go.Proofs.YtkkembbeejlomaaGreatDoor

namespace Go.Proofs.YtkkembbeejlomaaGreatDoor
open Go.RowKit Go.Shelf Go.Sort Go.Lib

/-- Page i and the next one are one. -/
def joinP (P : List (List Row)) (i : Nat) : List (List Row) := (P.set i (((P[i]?).getD []) ++ ((P[i + 1]?).getD []))).eraseIdx (i + 1)
set_option maxRecDepth 100000 in
set_option maxHeartbeats 4000000 in
theorem join_any {w : World} {s most i : Nat} {v : Value} {L : List Pl} {P : List (List Row)} {p q : List Row} (h : St w s most v L P) (hp : P[i]? = some p) (hq : P[i + 1]? = some q) (h1 : 1 ≤ p.length) (h2 : p.length + q.length ≤ 64) (hl : P.length ≤ 256) :
    Calls Tryz.prog 75 #[.pointer (some ⟨s, 0, none⟩), .int .i64 i] w fun e w' => e = .returned (.tuple #[]) ∧ StPost w s most v L (joinP P i) w' := by
  obtain ⟨a, g, c, ha, hv, hc1, hc2, kp, hA, hac⟩ := row_page h hp
  obtain ⟨d, g', c', hd, hv2, _, _, kq, hD, hdc⟩ := row_page h hq
  have hv4 := hv.symm.trans hv2
  injection hv4 with e1 _ e3
  injection e1 with e1
  injection e1 with e1
  subst e1 e3
  have ks : w.cell? ⟨s, 1, none⟩ = some v := cell_of h.head 1
  rw [hv] at ks
  have hil := (List.getElem?_eq_some_iff.1 hq).1
  have hmx := hA.max
  have hmd := hD.max
  have hvg : v.ownBlock = some g := by rw [hv]; rfl
  have hgs : g ≠ s := fun e => h.off (e ▸ hvg)
  have HJ : Hid (joinP P i = (P.set i (p ++ q)).eraseIdx (i + 1)) := Lib.hid (by unfold joinP; rw [hp, hq]; rfl)
  have HC : Hid (∀ W, Below w.heap.size w W → W.cell? ⟨s, 1, none⟩ = some (.slice (some ⟨g, 0, none⟩) P.length c) ∧ W.cell? ⟨g, i + 1, none⟩ = some (.slice (some ⟨d.g, d.o, none⟩) q.length d.cap)) := Lib.hid (fun W hW => ⟨(hW.cell (p := ⟨s, 1, none⟩) (World.block_lt_of_cell? _ _ ks)).trans ks, (hW.cell (p := ⟨g, i + 1, none⟩) (World.block_lt_of_cell? _ _ kq)).trans kq⟩)
  have HG : Hid (∀ W, Below w.heap.size w W → W.cell? ⟨g, i, none⟩ = some (.slice (some ⟨a.g, a.o, none⟩) p.length a.cap)) := Lib.hid (fun W hW => (hW.cell (p := ⟨g, i, none⟩) (World.block_lt_of_cell? _ _ kp)).trans kp)
  have HCON : Hid (∀ W4, Below w.heap.size w W4 → ∀ b, W4.heap[b]? = some (.cells #[.slice (some ⟨a.g, a.o, none⟩) p.length a.cap, .slice (some ⟨d.g, d.o, none⟩) q.length d.cap] 40 (0, 0)) →
      Calls Tryz.prog 76 #[.slice (some ⟨b, 0, none⟩) 2 2] W4 fun e W5 => ∃ a' : Pl, e = .returned (.slice (some ⟨a'.g, a'.o, none⟩) (p.length + q.length) a'.cap) ∧ a'.cap ≤ maxLen ∧ St (W5.setCell ⟨g, i, none⟩ (.slice (some ⟨a'.g, a'.o, none⟩) (p.length + q.length) a'.cap)) s most v (L.set i a') (P.set i (p ++ q)) ∧ Touch (Owns s v L) w (W5.setCell ⟨g, i, none⟩ (.slice (some ⟨a'.g, a'.o, none⟩) (p.length + q.length) a'.cap)) ∧ (∀ k, Owns s v (L.set i a') k → Owns s v L k ∨ w.heap.size ≤ k) ∧ Below w.heap.size w W5) := Lib.hid (fun W4 hb b hxb => by
    refine (Concat_any (p := p) (q := q) (a := a) (d := d) hxb (hA.below hb) (hD.below hb) hac ⟨hmd, hdc⟩ h1 (by omega)).mono ?_
    rintro e W5 ⟨G, hG, rfl, hA5, hb5⟩
    have hbw := hb.trans (hb5.mono hb.size)
    obtain ⟨h3, h4⟩ := h.upd (a' := ⟨W4.heap.size, 0, G⟩) (p' := p ++ q) hv ha hp hA5 (by rw [List.length_append]; exact hG) (.inr ⟨hb.size, hbw⟩)
    have hpv : plV ⟨W4.heap.size, 0, G⟩ (p ++ q) = .slice (some ⟨W4.heap.size, 0, none⟩) (p.length + q.length) G := by unfold plV; rw [List.length_append]
    rw [hpv] at h3 h4
    refine ⟨⟨W4.heap.size, 0, G⟩, rfl, hA5.max, h3, h4, fun k hk => ?_, hbw⟩
    rcases hk with rfl | hk | ⟨x, hx, rfl⟩
    · exact .inl (.inl rfl)
    · exact .inl (.inr (.inl hk))
    · rcases List.mem_or_eq_of_mem_set hx with hx | rfl
      · exact .inl (.inr (.inr ⟨x, hx, rfl⟩))
      · exact .inr hb.size)
  have hrow := h.row
  rw [hv] at hrow
  obtain ⟨hPA, _, _⟩ := hrow.area (pgsV_one L P)
  have HT : Hid (∀ W, Below w.heap.size w W → (W.cell? ⟨g, i, none⟩).isSome = true ∧ W.frozen? ⟨g, i, none⟩ = false) := Lib.hid (fun W hW => by
    obtain ⟨q1, q2⟩ := (hPA.below hW).there i (by omega)
    rw [Nat.zero_add] at q1 q2
    exact ⟨q1, q2⟩)
  have HDEL : Hid (∀ W (L' : List Pl), St W s most v L' (P.set i (p ++ q)) → Calls Tryz.prog 73 #[.slice (some ⟨g, 0, none⟩) P.length c, .int .i64 ((i : Int) + 1), .int .i64 ((i : Int) + 2)] W fun e W5 => e = .returned (.slice (some ⟨g, 0, none⟩) (P.length - 1) c) ∧ StPost W s most v L' ((P.set i (p ++ q)).eraseIdx (i + 1)) (W5.setCell ⟨s, 1, none⟩ (.slice (some ⟨g, 0, none⟩) (P.length - 1) c)) ∧ (W5.cell? ⟨s, 1, none⟩).isSome = true ∧ W5.frozen? ⟨s, 1, none⟩ = false) := Lib.hid (fun W L' h' => by
    have hlen : (P.set i (p ++ q)).length = P.length := List.length_set
    have hr := h'.row
    rw [hv, hlen] at hr
    obtain ⟨hPA', hn1, hl1⟩ := hr.area (pgsV_one _ _)
    have hD' := deleteP hPA' (k := i + 1) (n := P.length) (m := P.length - 1) (by omega) (by omega) (by omega) (by omega) (by omega)
    have e2 : (((i + 1 : Nat) : Int) + 1) = (i : Int) + 2 := by omega
    have e1 : ((i + 1 : Nat) : Int) = (i : Int) + 1 := by omega
    rw [e2, e1] at hD'
    refine hD'.mono ?_
    rintro e W5 ⟨rfl, hA5, hT5⟩
    rw [hv, ← hlen] at h'
    obtain ⟨_, h4, h5, h6⟩ := h'.erased (k := i + 1) (by omega) (Below.refl _ _) hA5 hT5 (by omega)
    rw [hlen] at h4
    rw [hv]
    exact ⟨rfl, h4, h5, h6⟩)
  have hiI : (i : Int) + 1 < (P.length : Int) := by omega
  have hi0 : (i : Int) < (P.length : Int) := by omega
  have hi00 : i < P.length := by omega
  have hlP : (P.length : Int) ≤ 256 := by omega
  unfold maxLen at hc2 hmx hmd
  have HNE : Hid (g ≠ s) := Lib.hid hgs
  have HKS : Hid (∀ (W : World) (u : Value), W.cell? ⟨s, 1, none⟩ = some (.slice (some ⟨g, 0, none⟩) P.length c) → (W.setCell ⟨g, i, none⟩ u).cell? ⟨s, 1, none⟩ = some (.slice (some ⟨g, 0, none⟩) P.length c)) := Lib.hid (fun W u hW => by rw [World.cell?_setCell_far _ _ _ _ (show g ≠ s from hgs)]; exact hW)
  have HKQ : Hid (∀ (W : World) (u : Value), W.cell? ⟨g, i + 1, none⟩ = some (.slice (some ⟨d.g, d.o, none⟩) q.length d.cap) → (W.setCell ⟨g, i, none⟩ u).cell? ⟨g, i + 1, none⟩ = some (.slice (some ⟨d.g, d.o, none⟩) q.length d.cap)) := Lib.hid (fun W u hW => by rw [World.cell?_setCell_other _ _ _ _ (by intro e; injection e with _ e; omega)]; exact hW)
  clear h hA hD hPA hrow hp hq ha hd hv hv2 hvg hgs kp kq ks
  have hw1 : IntKind.i64.wrap ((i : Int) + 1) = (i : Int) + 1 := IntWalk.i64_in _ (by omega)
  have hw2 : IntKind.i64.wrap ((i : Int) + 2) = (i : Int) + 2 := IntWalk.i64_in _ (by omega)
  go_enter Tryz.func75, Tryz.ntmps75
  go_wp2_with fail
  have hbn := below_new (w := w) (.cells #[.slice (some ⟨a.g, a.o, none⟩) p.length a.cap, .slice (some ⟨d.g, d.o, none⟩) q.length d.cap] 40)
  have HCALL := Lib.hid (HCON.out (w.alloc (.cells #[.slice (some ⟨a.g, a.o, none⟩) p.length a.cap, .slice (some ⟨d.g, d.o, none⟩) q.length d.cap] 40)).drew (below_drew hbn) w.heap.size (alloc_at w _))
  have hg1 := HG.out _ (below_drew (Below.refl _ w))
  have HKB := Lib.hid (HC.out _ hbn)
  clear hbn HCON
  refine wp_only ?_
  refine wp_region_held_drew (S := fun W => W.cell? ⟨s, 1, none⟩ = some (.slice (some ⟨g, 0, none⟩) P.length c) ∧ W.cell? ⟨g, i + 1, none⟩ = some (.slice (some ⟨d.g, d.o, none⟩) q.length d.cap)) (by kernel_rfl) (HC.out _ (below_drew (Below.refl _ _))) (fun hHeld => ?_)
  refine wpAnyH_take (i := 0) (oi := { dst := some 4, op := Op.move (Operand.tmp 0), type := 23, pos := "change.go:84", after := #[], guard := none }) (v := ?vv1) rfl (by kernel_rfl) (by kernel_rfl) (by kernel_rfl) (fun _ _ _ h => h) ?hy1 (by assumption) ?rest1
  case hy1 => (refine Or.inl ⟨by rfl, ?_⟩; intro W hSw; (try dsimp only at hSw); go_simp; (try with_reducible rfl))
  try simp only [Act.put, List.setIfInBounds_toArray, List.set_cons_zero, List.set_cons_succ]
  refine wpAnyH_take (i := 1) (oi := { dst := some 5, op := Op.nilCheck (Operand.tmp 4), type := 0, pos := "change.go:84", after := #[{ on := 0, ground := Ground.data }], guard := none }) (v := ?vv2) rfl (by kernel_rfl) (by kernel_rfl) (by kernel_rfl) (fun _ _ _ h => h) ?hy2 (by assumption) ?rest2
  case hy2 => (refine Or.inl ⟨by rfl, ?_⟩; intro W hSw; (try dsimp only at hSw); go_simp; (try with_reducible rfl))
  try simp only [Act.put, List.setIfInBounds_toArray, List.set_cons_zero, List.set_cons_succ]
  refine wpAnyH_take (i := 2) (oi := { dst := some 6, op := Op.fieldAddr 64 (Operand.tmp 5) 1, type := 0, pos := "change.go:84", after := #[{ on := 1, ground := Ground.data }], guard := none }) (v := ?vv3) rfl (by kernel_rfl) (by kernel_rfl) (by kernel_rfl) (fun _ _ _ h => h) ?hy3 (by assumption) ?rest3
  case hy3 => (refine Or.inl ⟨by rfl, ?_⟩; intro W hSw; (try dsimp only at hSw); go_simp; (try with_reducible rfl))
  try simp only [Act.put, List.setIfInBounds_toArray, List.set_cons_zero, List.set_cons_succ]
  refine wpAnyH_take (i := 3) (oi := { dst := some 7, op := Op.load 29 (Operand.tmp 6), type := 29, pos := "change.go:84", after := #[{ on := 2, ground := Ground.data }], guard := none }) (v := ?vv4) rfl (by kernel_rfl) (by kernel_rfl) (by kernel_rfl) (fun _ _ _ h => h) ?hy4 (by assumption) ?rest4
  case hy4 => (refine Or.inl ⟨by rfl, ?_⟩; intro W hSw; (try dsimp only at hSw); go_simp; (try with_reducible rfl))
  try simp only [Act.put, List.setIfInBounds_toArray, List.set_cons_zero, List.set_cons_succ]
  refine wpAnyH_take (i := 4) (oi := { dst := some 8, op := Op.move (Operand.tmp 1), type := 3, pos := "change.go:84", after := #[], guard := none }) (v := ?vv5) rfl (by kernel_rfl) (by kernel_rfl) (by kernel_rfl) (fun _ _ _ h => h) ?hy5 (by assumption) ?rest5
  case hy5 => (refine Or.inl ⟨by rfl, ?_⟩; intro W hSw; (try dsimp only at hSw); go_simp; (try with_reducible rfl))
  try simp only [Act.put, List.setIfInBounds_toArray, List.set_cons_zero, List.set_cons_succ]
  refine wpAnyH_take (i := 5) (oi := { dst := some 9, op := Op.move (Operand.tmp 0), type := 23, pos := "change.go:84", after := #[], guard := none }) (v := ?vv6) rfl (by kernel_rfl) (by kernel_rfl) (by kernel_rfl) (fun _ _ _ h => h) ?hy6 (by assumption) ?rest6
  case hy6 => (refine Or.inl ⟨by rfl, ?_⟩; intro W hSw; (try dsimp only at hSw); go_simp; (try with_reducible rfl))
  try simp only [Act.put, List.setIfInBounds_toArray, List.set_cons_zero, List.set_cons_succ]
  refine wpAnyH_take (i := 6) (oi := { dst := some 10, op := Op.nilCheck (Operand.tmp 9), type := 0, pos := "change.go:84", after := #[{ on := 5, ground := Ground.data }], guard := none }) (v := ?vv7) rfl (by kernel_rfl) (by kernel_rfl) (by kernel_rfl) (fun _ _ _ h => h) ?hy7 (by assumption) ?rest7
  case hy7 => (refine Or.inl ⟨by rfl, ?_⟩; intro W hSw; (try dsimp only at hSw); go_simp; (try with_reducible rfl))
  try simp only [Act.put, List.setIfInBounds_toArray, List.set_cons_zero, List.set_cons_succ]
  refine wpAnyH_take (i := 7) (oi := { dst := some 11, op := Op.fieldAddr 64 (Operand.tmp 10) 1, type := 0, pos := "change.go:84", after := #[{ on := 6, ground := Ground.data }], guard := none }) (v := ?vv8) rfl (by kernel_rfl) (by kernel_rfl) (by kernel_rfl) (fun _ _ _ h => h) ?hy8 (by assumption) ?rest8
  case hy8 => (refine Or.inl ⟨by rfl, ?_⟩; intro W hSw; (try dsimp only at hSw); go_simp; (try with_reducible rfl))
  try simp only [Act.put, List.setIfInBounds_toArray, List.set_cons_zero, List.set_cons_succ]
  refine wpAnyH_take (i := 8) (oi := { dst := some 12, op := Op.load 29 (Operand.tmp 11), type := 29, pos := "change.go:84", after := #[{ on := 7, ground := Ground.data }], guard := none }) (v := ?vv9) rfl (by kernel_rfl) (by kernel_rfl) (by kernel_rfl) (fun _ _ _ h => h) ?hy9 (by assumption) ?rest9
  case hy9 => (refine Or.inl ⟨by rfl, ?_⟩; intro W hSw; (try dsimp only at hSw); go_simp; (try with_reducible rfl))
  try simp only [Act.put, List.setIfInBounds_toArray, List.set_cons_zero, List.set_cons_succ]
  refine wpAnyH_take (i := 9) (oi := { dst := some 13, op := Op.move (Operand.tmp 1), type := 3, pos := "change.go:84", after := #[], guard := none }) (v := ?vv10) rfl (by kernel_rfl) (by kernel_rfl) (by kernel_rfl) (fun _ _ _ h => h) ?hy10 (by assumption) ?rest10
  case hy10 => (refine Or.inl ⟨by rfl, ?_⟩; intro W hSw; (try dsimp only at hSw); go_simp; (try with_reducible rfl))
  try simp only [Act.put, List.setIfInBounds_toArray, List.set_cons_zero, List.set_cons_succ]
  refine wpAnyH_take (i := 10) (oi := { dst := some 14, op := Op.indexAddr 29 (Operand.tmp 12) (Operand.tmp 13), type := 0, pos := "change.go:84", after := #[{ on := 8, ground := Ground.data }, { on := 9, ground := Ground.data }], guard := none }) (v := ?vv11) rfl (by kernel_rfl) (by kernel_rfl) (by kernel_rfl) (fun _ _ _ h => h) ?hy11 (by assumption) ?rest11
  case hy11 => (refine Or.inl ⟨by rfl, ?_⟩; intro W hSw; (try dsimp only at hSw); go_simp; (try with_reducible rfl))
  try simp only [Act.put, List.setIfInBounds_toArray, List.set_cons_zero, List.set_cons_succ]
  refine wpAnyH_take (i := 12) (oi := { dst := some 16, op := Op.move (Operand.tmp 0), type := 23, pos := "change.go:84", after := #[], guard := none }) (v := ?vv12) rfl (by kernel_rfl) (by kernel_rfl) (by kernel_rfl) (fun _ _ _ h => h) ?hy12 (by assumption) ?rest12
  case hy12 => (refine Or.inl ⟨by rfl, ?_⟩; intro W hSw; (try dsimp only at hSw); go_simp; (try with_reducible rfl))
  try simp only [Act.put, List.setIfInBounds_toArray, List.set_cons_zero, List.set_cons_succ]
  refine wpAnyH_take (i := 13) (oi := { dst := some 17, op := Op.nilCheck (Operand.tmp 16), type := 0, pos := "change.go:84", after := #[{ on := 12, ground := Ground.data }], guard := none }) (v := ?vv13) rfl (by kernel_rfl) (by kernel_rfl) (by kernel_rfl) (fun _ _ _ h => h) ?hy13 (by assumption) ?rest13
  case hy13 => (refine Or.inl ⟨by rfl, ?_⟩; intro W hSw; (try dsimp only at hSw); go_simp; (try with_reducible rfl))
  try simp only [Act.put, List.setIfInBounds_toArray, List.set_cons_zero, List.set_cons_succ]
  refine wpAnyH_take (i := 14) (oi := { dst := some 18, op := Op.fieldAddr 64 (Operand.tmp 17) 1, type := 0, pos := "change.go:84", after := #[{ on := 13, ground := Ground.data }], guard := none }) (v := ?vv14) rfl (by kernel_rfl) (by kernel_rfl) (by kernel_rfl) (fun _ _ _ h => h) ?hy14 (by assumption) ?rest14
  case hy14 => (refine Or.inl ⟨by rfl, ?_⟩; intro W hSw; (try dsimp only at hSw); go_simp; (try with_reducible rfl))
  try simp only [Act.put, List.setIfInBounds_toArray, List.set_cons_zero, List.set_cons_succ]
  refine wpAnyH_take (i := 15) (oi := { dst := some 19, op := Op.load 29 (Operand.tmp 18), type := 29, pos := "change.go:84", after := #[{ on := 14, ground := Ground.data }], guard := none }) (v := ?vv15) rfl (by kernel_rfl) (by kernel_rfl) (by kernel_rfl) (fun _ _ _ h => h) ?hy15 (by assumption) ?rest15
  case hy15 => (refine Or.inl ⟨by rfl, ?_⟩; intro W hSw; (try dsimp only at hSw); go_simp; (try with_reducible rfl))
  try simp only [Act.put, List.setIfInBounds_toArray, List.set_cons_zero, List.set_cons_succ]
  refine wpAnyH_take (i := 16) (oi := { dst := some 20, op := Op.move (Operand.tmp 1), type := 3, pos := "change.go:84", after := #[], guard := none }) (v := ?vv16) rfl (by kernel_rfl) (by kernel_rfl) (by kernel_rfl) (fun _ _ _ h => h) ?hy16 (by assumption) ?rest16
  case hy16 => (refine Or.inl ⟨by rfl, ?_⟩; intro W hSw; (try dsimp only at hSw); go_simp; (try with_reducible rfl))
  try simp only [Act.put, List.setIfInBounds_toArray, List.set_cons_zero, List.set_cons_succ]
  refine wpAnyH_take (i := 17) (oi := { dst := some 21, op := Op.binOp BinOp.add 3 (Operand.tmp 20) (Operand.const (Value.int IntKind.i64 1)) 3, type := 3, pos := "change.go:84", after := #[{ on := 16, ground := Ground.data }], guard := none }) (v := ?vv17) rfl (by kernel_rfl) (by kernel_rfl) (by kernel_rfl) (fun _ _ _ h => h) ?hy17 (by assumption) ?rest17
  case hy17 => (refine Or.inl ⟨by rfl, ?_⟩; intro W hSw; (try dsimp only at hSw); go_simp; (try with_reducible rfl))
  try simp only [Act.put, List.setIfInBounds_toArray, List.set_cons_zero, List.set_cons_succ]
  refine wpAnyH_take (i := 18) (oi := { dst := some 22, op := Op.indexAddr 29 (Operand.tmp 19) (Operand.tmp 21), type := 0, pos := "change.go:84", after := #[{ on := 15, ground := Ground.data }, { on := 17, ground := Ground.data }], guard := none }) (v := (.pointer (some ⟨g, i + 1, none⟩))) rfl (by kernel_rfl) (by kernel_rfl) (by kernel_rfl) (fun _ _ _ h => h) ?hy18 (by assumption) ?rest18
  case hy18 => ((refine Or.inl ⟨by rfl, ?_⟩; intro W hSw; go_simp; intro h; omega))
  try simp only [Act.put, List.setIfInBounds_toArray, List.set_cons_zero, List.set_cons_succ]
  refine wpAnyH_take (i := 19) (oi := { dst := some 23, op := Op.load 40 (Operand.tmp 22), type := 40, pos := "change.go:84", after := #[{ on := 18, ground := Ground.data }], guard := none }) (v := ?vv19) rfl (by kernel_rfl) (by kernel_rfl) (by kernel_rfl) (fun _ _ _ h => h) ?hy19 (by assumption) ?rest19
  case hy19 => (refine Or.inl ⟨by rfl, ?_⟩; intro W hSw; (try dsimp only at hSw); go_simp; (try with_reducible rfl))
  try simp only [Act.put, List.setIfInBounds_toArray, List.set_cons_zero, List.set_cons_succ]
  refine wpAnyH_ready (rs := [11]) (by kernel_rfl) (by simp) ?_
  refine AllReadyH.cons (o := { dst := some 15, op := Op.load 40 (Operand.tmp 14), type := 40, pos := "change.go:84", after := #[{ on := 10, ground := Ground.data }], guard := none }) rfl (fun K hK => ?step20) ?more20
  case more20 => exact AllReadyH.nil
  (go_simp)
  refine hK.out _ _ ?hS20 (fun hHeld => ?rr20)
  case hS20 => (exact HC.out _ (below_drew (Below.refl _ _)))
  clear hK K
  try simp only [Act.put, List.setIfInBounds_toArray, List.set_cons_zero, List.set_cons_succ]
  refine wpAnyH_ready (rs := [20]) (by kernel_rfl) (by simp) ?_
  refine AllReadyH.cons (o := { dst := some 24, op := Op.buildSlice 29 2 #[(0, Operand.tmp 15), (1, Operand.tmp 23)], type := 29, pos := "change.go:84", after := #[{ on := 11, ground := Ground.data }, { on := 19, ground := Ground.data }], guard := none }) rfl (fun K hK => ?step21) ?more21
  case more21 => exact AllReadyH.nil
  (go_simp)
  refine hK.out _ _ ?hS21 (fun hHeld => ?rr21)
  case hS21 => (exact HKB.out)
  clear hK K
  try simp only [Act.put, List.setIfInBounds_toArray, List.set_cons_zero, List.set_cons_succ]
  refine wpAnyH_ready (rs := [21]) (by kernel_rfl) (by simp) ?_
  refine AllReadyH.cons (o := { dst := some 25, op := Op.call { callee := Callee.value (Operand.func 76), args := #[Operand.tmp 24], argTypes := #[29] }, type := 40, pos := "change.go:84", after := #[{ on := 20, ground := Ground.data }], guard := none }) rfl (fun K hK => ?step22) ?more22
  case more22 => exact AllReadyH.nil
  ((go_simp; go_at_call 76; refine (HCALL.out).mono ?_; rintro e w5 ⟨a', rfl, h3, h4, h5, h6, h9⟩; have HB5 := Lib.hid h9; clear h9; go_wp2_with fail))
  refine hK.out _ _ ?hS22 (fun hHeld => ?rr22)
  case hS22 => (exact HC.out _ HB5.out)
  clear hK K
  try simp only [Act.put, List.setIfInBounds_toArray, List.set_cons_zero, List.set_cons_succ]
  obtain ⟨q1, q2⟩ := HT.out _ HB5.out
  obtain ⟨xx, q1⟩ := Option.isSome_iff_exists.1 q1
  obtain ⟨hk1, hk2⟩ := HC.out _ HB5.out
  have HK5 := Lib.hid (And.intro (HKS.out w5 (.slice (some ⟨a'.g, a'.o, none⟩) (p.length + q.length) a'.cap) hk1) (HKQ.out w5 (.slice (some ⟨a'.g, a'.o, none⟩) (p.length + q.length) a'.cap) hk2))
  have H4 := Lib.hid h4
  have H5 := Lib.hid h5
  have H6 := Lib.hid h6
  clear h4 h5 h6 hk1 hk2 HCALL
  refine wpAnyH_take (i := 22) (oi := { dst := some 26, op := Op.indexAddr 29 (Operand.tmp 7) (Operand.tmp 8), type := 0, pos := "change.go:84", after := #[{ on := 3, ground := Ground.data }, { on := 4, ground := Ground.data }, { on := 0, ground := Ground.phase }, { on := 1, ground := Ground.phase }, { on := 2, ground := Ground.phase }, { on := 3, ground := Ground.phase }, { on := 4, ground := Ground.phase }, { on := 5, ground := Ground.phase }, { on := 6, ground := Ground.phase }, { on := 7, ground := Ground.phase }, { on := 8, ground := Ground.phase }, { on := 9, ground := Ground.phase }, { on := 10, ground := Ground.phase }, { on := 11, ground := Ground.phase }, { on := 12, ground := Ground.phase }, { on := 13, ground := Ground.phase }, { on := 14, ground := Ground.phase }, { on := 15, ground := Ground.phase }, { on := 16, ground := Ground.phase }, { on := 17, ground := Ground.phase }, { on := 18, ground := Ground.phase }, { on := 19, ground := Ground.phase }, { on := 20, ground := Ground.phase }, { on := 21, ground := Ground.phase }], guard := none }) (v := ?vv23) rfl (by kernel_rfl) (by kernel_rfl) (by kernel_rfl) (fun _ _ _ h => h) ?hy23 (by assumption) ?rest23
  case hy23 => (refine Or.inl ⟨by rfl, ?_⟩; intro W hSw; (try dsimp only at hSw); go_simp; (try with_reducible rfl))
  try simp only [Act.put, List.setIfInBounds_toArray, List.set_cons_zero, List.set_cons_succ]
  refine wpAnyH_ready (rs := [23]) (by kernel_rfl) (by simp) ?_
  refine AllReadyH.cons (o := { dst := none, op := Op.store 40 (Operand.tmp 26) (Operand.tmp 25), type := 0, pos := "change.go:84", after := #[{ on := 22, ground := Ground.data }, { on := 21, ground := Ground.data }, { on := 21, ground := Ground.chain }, { on := 0, ground := Ground.phase }, { on := 1, ground := Ground.phase }, { on := 2, ground := Ground.phase }, { on := 3, ground := Ground.phase }, { on := 4, ground := Ground.phase }, { on := 5, ground := Ground.phase }, { on := 6, ground := Ground.phase }, { on := 7, ground := Ground.phase }, { on := 8, ground := Ground.phase }, { on := 9, ground := Ground.phase }, { on := 10, ground := Ground.phase }, { on := 11, ground := Ground.phase }, { on := 12, ground := Ground.phase }, { on := 13, ground := Ground.phase }, { on := 14, ground := Ground.phase }, { on := 15, ground := Ground.phase }, { on := 16, ground := Ground.phase }, { on := 17, ground := Ground.phase }, { on := 18, ground := Ground.phase }, { on := 19, ground := Ground.phase }, { on := 20, ground := Ground.phase }, { on := 21, ground := Ground.phase }], guard := none }) rfl (fun K hK => ?step24) ?more24
  case more24 => exact AllReadyH.nil
  (go_simp)
  refine hK.out _ _ ?hS24 (fun hHeld => ?rr24)
  case hS24 => (exact HK5.out)
  clear hK K
  try simp only [Act.put, List.setIfInBounds_toArray, List.set_cons_zero, List.set_cons_succ]
  refine wpAnyH_done (by kernel_rfl) ?_ _
  clear hHeld q1 q2 HC HG HT HKS HKQ HKB hg1
  dsimp only [onlyN]
  obtain ⟨d2, _⟩ := HK5.out
  obtain ⟨W6, hW6⟩ : ∃ W6, W6 = w5.setCell ⟨g, i, none⟩ (.slice (some ⟨a'.g, a'.o, none⟩) (p.length + q.length) a'.cap) := ⟨_, rfl⟩
  rw [← hW6] at d2 H4 H5 ⊢
  have HD := Lib.hid (HDEL.out W6 _ H4.out)
  have HFIN := Lib.hid (fun (W : World) (hq : StPost W6 s most v (L.set i a') ((P.set i (p ++ q)).eraseIdx (i + 1)) W) => StPost.trans H5.out H6.out hq)
  clear hW6 HDEL HK5 H4 H5 H6 HB5
  go_wp2_with fail
  refine (HD.out).mono ?_
  rintro e w7 ⟨rfl, hpost, q1, q2⟩
  obtain ⟨xx, q1⟩ := Option.isSome_iff_exists.1 q1
  have HF7 := Lib.hid (HFIN.out _ hpost)
  clear hpost HFIN HD
  go_wp2_with fail
  go_end0
  exact ⟨rfl, by rw [HJ.out]; exact HF7.out⟩
end Go.Proofs.YtkkembbeejlomaaGreatDoor

namespace Go.Proofs.YtkkembbeejlomaaGreatDoor
open Go.RowKit Go.Shelf Go.Sort Go.Lib

/-- What becomes of a page that lost a row. -/
def tidyP (most : Nat) (P : List (List Row)) (i : Nat) : List (List Row) :=
  if ((P[i]?).getD []).length = 0 then P.eraseIdx i
  else if most / 2 ≤ ((P[i]?).getD []).length then P
  else if joinsP most P (i : Int) = true then joinP P i
  else if joinsP most P ((i : Int) - 1) = true then joinP P (i - 1)
  else P
theorem joins_at {most : Nat} {P : List (List Row)} {i : Int} (h : joinsP most P i = true) : ∃ (j : Nat) (p q : List Row), i = (j : Int) ∧ P[j]? = some p ∧ P[j + 1]? = some q ∧ p.length + q.length ≤ most := by
  unfold joinsP at h
  simp only [Bool.and_eq_true, decide_eq_true_eq] at h
  obtain ⟨⟨h1, h2⟩, h3⟩ := h
  refine ⟨i.toNat, P[i.toNat]'(by omega), P[i.toNat + 1]'(by omega), by omega, List.getElem?_eq_getElem _, List.getElem?_eq_getElem _, ?_⟩
  rw [List.getElem?_eq_getElem (show i.toNat < P.length by omega), List.getElem?_eq_getElem (show i.toNat + 1 < P.length by omega)] at h3
  exact h3
set_option maxRecDepth 100000 in
set_option maxHeartbeats 4000000 in
theorem tidy_any {w : World} {s most i : Nat} {v : Value} {L : List Pl} {P : List (List Row)} {p : List Row} (h : St w s most v L P) (hp : P[i]? = some p) (hl : P.length ≤ 256) (hall : ∀ q ∈ P, q.length ≤ 64) (hne : ∀ (j : Nat) (q : List Row), P[j]? = some q → j ≠ i → 1 ≤ q.length) (hm : 2 ≤ most ∧ most ≤ 64) :
    Calls Tryz.prog 47 #[.pointer (some ⟨s, 0, none⟩), .int .i64 i] w fun e w' => e = .returned (.tuple #[]) ∧ StPost w s most v L (tidyP most P i) w' := by
  obtain ⟨a, g, c, ha, hv, hc1, hc2, kp, hA, hac⟩ := row_page h hp
  have ks : w.cell? ⟨s, 1, none⟩ = some v := cell_of h.head 1
  have km : w.cell? ⟨s, 0, none⟩ = some (.int .i64 most) := cell_of h.head 0
  rw [hv] at ks
  have hil := (List.getElem?_eq_some_iff.1 hp).1
  have hpl := hall p (List.mem_of_getElem? hp)
  have hmx := hA.max
  unfold maxLen at hc2 hmx
  have hT : tidyP most P i = if p.length = 0 then P.eraseIdx i else if most / 2 ≤ p.length then P else if joinsP most P (i : Int) = true then joinP P i else if joinsP most P ((i : Int) - 1) = true then joinP P (i - 1) else P := by
    unfold tidyP
    rw [hp]
    rfl
  have hi0 : (i : Int) < (P.length : Int) := by omega
  have hlP : (P.length : Int) ≤ 256 := by omega
  have hw1 : IntKind.i64.wrap ((i : Int) + 1) = (i : Int) + 1 := IntWalk.i64_in _ (by omega)
  have hw2 : IntKind.i64.wrap ((i : Int) - 1) = (i : Int) - 1 := IntWalk.i64_in _ (by omega)
  have hmI : (most : Int).tdiv 2 = ((most / 2 : Nat) : Int) := by rw [Int.tdiv_eq_ediv_of_nonneg (by omega)]; omega
  have hwm : IntKind.i64.wrap ((most / 2 : Nat) : Int) = ((most / 2 : Nat) : Int) := IntWalk.i64_in _ (by omega)
  have HJ := Lib.hid (fun (W : World) (hW : Below w.heap.size w W) (x : Int) (hx : -10 ≤ x ∧ x ≤ 1000) => joins_any (h.below hW) hl hx (fun q hq => by have := hall q hq; omega))
  have HJOIN : Hid (p.length ≠ 0 → ∀ W, Below w.heap.size w W → ∀ j : Nat, joinsP most P (j : Int) = true → Calls Tryz.prog 75 #[.pointer (some ⟨s, 0, none⟩), .int .i64 j] W fun e w' => e = .returned (.tuple #[]) ∧ StPost w s most v L (joinP P j) w') := Lib.hid (fun hpn W hW j hj => by
    obtain ⟨j', p', q', e, h1, h2, h3⟩ := joins_at hj
    obtain rfl : j = j' := by omega
    have hp0 : 1 ≤ p'.length := by
      by_cases hji : j = i
      · subst hji
        obtain rfl := Option.some.inj (hp.symm.trans h1)
        omega
      · exact hne j p' h1 hji
    refine (join_any (h.below hW) h1 h2 hp0 (by omega) hl).mono ?_
    rintro e w' ⟨rfl, hpo⟩
    exact ⟨rfl, .ahead hW hpo⟩)
  have HDEL : Hid (∀ W, Below w.heap.size w W → Calls Tryz.prog 73 #[.slice (some ⟨g, 0, none⟩) P.length c, .int .i64 i, .int .i64 ((i : Int) + 1)] W fun e W5 => e = .returned (.slice (some ⟨g, 0, none⟩) (P.length - 1) c) ∧ StPost w s most v L (P.eraseIdx i) (W5.setCell ⟨s, 1, none⟩ (.slice (some ⟨g, 0, none⟩) (P.length - 1) c)) ∧ (W5.cell? ⟨s, 1, none⟩).isSome = true ∧ W5.frozen? ⟨s, 1, none⟩ = false) := Lib.hid (fun W hW => by
    have h' := h.below hW
    have hr := h'.row
    rw [hv] at hr
    obtain ⟨hPA', hn1, hl1⟩ := hr.area (pgsV_one _ _)
    refine (deleteP hPA' (k := i) (n := P.length) (m := P.length - 1) (by omega) (by omega) (by omega) (by omega) (by omega)).mono ?_
    rintro e W5 ⟨rfl, hA5, hT5⟩
    rw [hv] at h'
    obtain ⟨_, h4, h5, h6⟩ := h'.erased (k := i) (by omega) (Below.refl _ _) hA5 hT5 (by omega)
    rw [hv]
    exact ⟨rfl, .ahead hW h4, h5, h6⟩)
  have HT := Lib.hid hT
  have H := Lib.hid h
  obtain ⟨n, hn⟩ : ∃ n, p.length = n := ⟨_, rfl⟩
  rw [hn] at kp hpl HT hac HJOIN
  clear h hp ha hv hA hall hne hT hn
  have hnI : (n : Int) ≤ 64 := by omega
  by_cases h0 : n = 0
  · subst h0
    have HE : Hid (tidyP most P i = P.eraseIdx i) := Lib.hid (by rw [HT.out, if_pos rfl])
    clear HJ HJOIN HT
    go_enter Tryz.func47, Tryz.ntmps47
    go_wp2_with fail
    refine (HDEL.out _ (Below.refl _ _)).mono ?_
    rintro e w5 ⟨rfl, hpost, q1, q2⟩
    obtain ⟨xx, q1⟩ := Option.isSome_iff_exists.1 q1
    have HF := Lib.hid hpost
    clear hpost HDEL
    go_wp2_with fail
    go_end0
    exact ⟨rfl, by rw [HE.out]; exact HF.out⟩
  · have h0b : ((n : Int) == 0) = false := by rw [beq_eq_false_iff_ne]; omega
    by_cases h1 : most / 2 ≤ n
    · have h1I : (most : Int) / 2 ≤ (n : Int) := by omega
      have HE : Hid (tidyP most P i = P) := Lib.hid (by rw [HT.out, if_neg h0, if_pos h1])
      clear HJ HJOIN HT HDEL
      go_enter Tryz.func47, Tryz.ntmps47
      go_wp2_with fail
      go_end0
      exact ⟨rfl, by rw [HE.out]; exact StPost.start H.out (Below.refl _ _)⟩
    · have h1I : ¬ (most : Int) / 2 ≤ (n : Int) := by omega
      have hjo := HJOIN.out (by omega)
      have HJO := Lib.hid hjo
      clear hjo HJOIN HDEL
      cases hj1 : joinsP most P (i : Int) with
      | true =>
        have HE : Hid (tidyP most P i = joinP P i) := Lib.hid (by rw [HT.out, if_neg h0, if_neg h1, if_pos hj1])
        have HJ1 := Lib.hid hj1
        clear HT hj1
        go_enter Tryz.func47, Tryz.ntmps47
        go_wp2_with fail
        refine (HJ.out _ (Below.refl _ _) _ (by omega)).mono ?_
        rintro e w2 ⟨rfl, hb2⟩
        have HB2 := Lib.hid hb2
        rw [HJ1.out]
        clear hb2
        go_wp2_with fail
        refine (HJO.out _ HB2.out i HJ1.out).mono ?_
        rintro e w3 ⟨rfl, hpost⟩
        have HF := Lib.hid hpost
        clear hpost HJO
        go_wp2_with fail
        go_end0
        exact ⟨rfl, by rw [HE.out]; exact HF.out⟩
      | false =>
        have HJ1 := Lib.hid hj1
        cases hj2 : joinsP most P ((i : Int) - 1) with
        | true =>
          have HE : Hid (tidyP most P i = joinP P (i - 1)) := Lib.hid (by rw [HT.out, if_neg h0, if_neg h1, if_neg (by rw [hj1]; simp), if_pos hj2])
          obtain ⟨j, p', q', e, _, _, _⟩ := joins_at hj2
          have hji : i - 1 = j := by omega
          rw [hji] at HE
          have HJ2 := Lib.hid hj2
          have hj3 : joinsP most P (j : Int) = true := by rw [← e]; exact hj2
          have HJ3 := Lib.hid hj3
          have HEQ := Lib.hid e
          clear HT hj1 hj2 hj3 e
          go_enter Tryz.func47, Tryz.ntmps47
          go_wp2_with fail
          refine (HJ.out _ (Below.refl _ _) _ (by omega)).mono ?_
          rintro e w2 ⟨rfl, hb2⟩
          have HB2 := Lib.hid hb2
          rw [HJ1.out]
          clear hb2
          go_wp2_with fail
          refine (HJ.out _ HB2.out _ (by omega)).mono ?_
          rintro e w3 ⟨rfl, hb3⟩
          have HB3 := Lib.hid (HB2.out.trans (hb3.mono HB2.out.size))
          rw [HJ2.out]
          clear hb3
          have heq := HEQ.out
          go_wp2_with fail
          refine (HJO.out _ HB3.out j HJ3.out).mono ?_
          rintro e w4 ⟨rfl, hpost⟩
          have HF := Lib.hid hpost
          clear hpost HJO
          go_wp2_with fail
          go_end0
          exact ⟨rfl, by rw [HE.out]; exact HF.out⟩
        | false =>
          have HE : Hid (tidyP most P i = P) := Lib.hid (by rw [HT.out, if_neg h0, if_neg h1, if_neg (by rw [hj1]; simp), if_neg (by rw [hj2]; simp)])
          have HJ2 := Lib.hid hj2
          clear HT hj1 hj2
          go_enter Tryz.func47, Tryz.ntmps47
          go_wp2_with fail
          refine (HJ.out _ (Below.refl _ _) _ (by omega)).mono ?_
          rintro e w2 ⟨rfl, hb2⟩
          have HB2 := Lib.hid hb2
          rw [HJ1.out]
          clear hb2
          go_wp2_with fail
          refine (HJ.out _ HB2.out _ (by omega)).mono ?_
          rintro e w3 ⟨rfl, hb3⟩
          have HB3 := Lib.hid (HB2.out.trans (hb3.mono HB2.out.size))
          rw [HJ2.out]
          clear hb3
          go_wp2_with fail
          go_end0
          exact ⟨rfl, by rw [HE.out]; exact StPost.start H.out HB3.out⟩
end Go.Proofs.YtkkembbeejlomaaGreatDoor

namespace Go.Proofs.YtkkembbeejlomaaGreatDoor
open Go.RowKit Go.Shelf Go.Sort Go.Lib

theorem pgC_del {p : List Row} {k : Nat} : delL 2 k (pgC p) = pgC (p.eraseIdx k) := by
  unfold delL
  rw [pgC_take, pgC_drop, List.eraseIdx_eq_take_drop_succ, pgC_append]
/-- Del, in plain words. -/
def delP (most : Nat) (P : List (List Row)) (k : K) : List (List Row) × Bool := match findP P k with
  | (i, at_, true) => (tidyP most (P.set i (((P[i]?).getD []).eraseIdx at_)) i, true)
  | (_, _, false) => (P, false)
set_option maxRecDepth 100000 in
set_option maxHeartbeats 4000000 in
theorem Del_any {w : World} {s most : Nat} {v : Value} {L : List Pl} {P : List (List Row)} {k : K} (h : St w s most v L P) (hF : Fine most P) :
    Calls Tryz.prog 18 #[.pointer (some ⟨s, 0, none⟩), strV k] w fun e w' => e = .returned (.bool (delP most P k).2) ∧ StPost w s most v L (delP most P k).1 w' := by
  have hfi := find_any (k := k) h hF
  simp only [strV] at hfi
  cases ht : (findP P k).2.2 with
  | false =>
    have hg : delP most P k = (P, false) := by
      unfold delP
      generalize findP P k = f at ht
      obtain ⟨i, at_, t⟩ := f
      simp only at ht
      subst ht
      rfl
    rw [hg]
    rw [ht] at hfi
    have HFI := Lib.hid hfi
    have H := Lib.hid h
    generalize (findP P k).1 = i at HFI
    generalize (findP P k).2.1 = at_ at HFI
    clear hfi h hF hg ht
    unfold strV
    go_enter Tryz.func18, Tryz.ntmps18
    go_wp2_with fail
    refine (HFI.out).mono ?_
    rintro e w2 ⟨rfl, hb2⟩
    have HB2 := Lib.hid hb2
    clear hb2 HFI
    go_wp2_with fail
    go_ret
    exact ⟨rfl, StPost.start H.out HB2.out⟩
  | true =>
    have HP0 : ∃ i p, P[i]? = some p ∧ findP P k = (i, lowP p k, hasP p k) := by
      unfold findP at ht ⊢
      split
      · rename_i p hp
        exact ⟨_, p, hp, rfl⟩
      · rename_i hp
        rw [hp] at ht
        cases ht
    obtain ⟨i, p, hp, hfp⟩ := HP0
    rw [hfp] at hfi ht
    simp only at ht
    rw [ht] at hfi
    obtain ⟨r, hr, hrk⟩ := has_at ht
    have hg : delP most P k = (tidyP most (P.set i (p.eraseIdx (lowP p k))) i, true) := by
      unfold delP
      rw [hfp, ht]
      simp only [hp, Option.getD_some]
    rw [hg]
    obtain ⟨a, g, c, ha, hv, hc1, hc2, kc, hA, hac⟩ := row_page h hp
    have ks : w.cell? ⟨s, 1, none⟩ = some v := cell_of h.head 1
    rw [hv] at ks
    have hpl := (hF.page hp).2.2
    have hp1 := (hF.page hp).2.1
    have hPl := hF.len
    have hil := (List.getElem?_eq_some_iff.1 hp).1
    have hal := (List.getElem?_eq_some_iff.1 hr).1
    have hmx := hA.max
    unfold maxLen at hc2 hmx
    have HFI := Lib.hid hfi
    generalize lowP p k = at_ at HFI hal
    have hvg : v.ownBlock = some g := by rw [hv]; rfl
    have hgs : g ≠ s := fun e => h.off (e ▸ hvg)
    have hel : (p.eraseIdx at_).length = p.length - 1 := by rw [List.length_eraseIdx]; simp [hal]
    obtain ⟨q, hq⟩ : ∃ q, q = p.eraseIdx at_ := ⟨_, rfl⟩
    rw [← hq] at hel ⊢
    have HC : Hid (∀ W, Below w.heap.size w W → W.cell? ⟨s, 1, none⟩ = some (.slice (some ⟨g, 0, none⟩) P.length c)) := Lib.hid (fun W hW => (hW.cell (p := ⟨s, 1, none⟩) (World.block_lt_of_cell? _ _ ks)).trans ks)
    have HG : Hid (∀ W, Below w.heap.size w W → W.cell? ⟨g, i, none⟩ = some (.slice (some ⟨a.g, a.o, none⟩) p.length a.cap)) := Lib.hid (fun W hW => (hW.cell (p := ⟨g, i, none⟩) (World.block_lt_of_cell? _ _ kc)).trans kc)
    have hag := h.offs a (List.mem_of_getElem? ha)
    have hga : g ≠ a.g := fun e => hag.2 (e ▸ hvg)
    have HDEL : Hid (∀ W4, Below w.heap.size w W4 → Calls Tryz.prog 46 #[.slice (some ⟨a.g, a.o, none⟩) p.length a.cap, .int .i64 at_, .int .i64 ((at_ : Int) + 1)] W4 fun e W5 =>
        e = .returned (.slice (some ⟨a.g, a.o, none⟩) (p.length - 1) a.cap) ∧ St (W5.setCell ⟨g, i, none⟩ (.slice (some ⟨a.g, a.o, none⟩) (p.length - 1) a.cap)) s most v (L.set i a) (P.set i q) ∧ Touch (Owns s v L) w (W5.setCell ⟨g, i, none⟩ (.slice (some ⟨a.g, a.o, none⟩) (p.length - 1) a.cap)) ∧ (W5.cell? ⟨g, i, none⟩).isSome = true ∧ W5.frozen? ⟨g, i, none⟩ = false ∧ W5.cell? ⟨s, 1, none⟩ = some (.slice (some ⟨g, 0, none⟩) P.length c)) := Lib.hid (fun W4 hb => by
      refine (deleteR (hA.below hb) (by rw [pgC_len]) (k := at_) (n := p.length) (m := p.length - 1) (by omega) hal hac (by omega)).mono ?_
      rintro e W5 ⟨rfl, hA5, hT5⟩
      rw [pgC_del, ← hq] at hA5
      have hTA := (TouchA.of_below (o := a.o) (n := a.cap * 2) hA.lt hb).trans hT5
      obtain ⟨h3, h4⟩ := h.upd (a' := a) (p' := q) hv ha hp hA5 (by omega) (.inl ⟨Sub.refl a, hTA⟩)
      have hpv : plV a q = .slice (some ⟨a.g, a.o, none⟩) (p.length - 1) a.cap := by unfold plV; rw [hel]
      rw [hpv] at h3 h4
      have hr1 : RowIs W5 1 v P.length (pgsV L P) := RowIs.touch h.row hTA.touch (fun k hk e => hag.2 (e ▸ hk))
      rw [hv] at hr1
      obtain ⟨hPA, _, _⟩ := hr1.area (pgsV_one L P)
      obtain ⟨q1, q2⟩ := hPA.there i (by omega)
      rw [Nat.zero_add] at q1 q2
      exact ⟨rfl, h3, h4, q1, q2, (World.cell?_of_block (a := ⟨s, 1, none⟩) (hTA.block s (heap_lt h.head) (fun e => hag.1 e.symm))).trans ks⟩)
    have HTIDY : Hid (∀ W (L' : List Pl), St W s most v L' (P.set i q) → Calls Tryz.prog 47 #[.pointer (some ⟨s, 0, none⟩), .int .i64 i] W fun e w' => e = .returned (.tuple #[]) ∧ StPost W s most v L' (tidyP most (P.set i q) i) w') := Lib.hid (fun W L' h' => tidy_any h' (List.getElem?_set_self hil) (by rw [List.length_set]; exact hPl) (fun x hx => (List.mem_or_eq_of_mem_set hx).elim (fun hx => Nat.le_trans (hF.full x hx) hF.most.2) (fun e => by rw [e]; omega)) (fun j x hx hji => by
      rw [List.getElem?_set_ne (fun e => hji e.symm)] at hx
      exact (hF.page hx).2.1) hF.most)
    have HOW : Hid (∀ k, Owns s v (L.set i a) k → Owns s v L k ∨ w.heap.size ≤ k) := Lib.hid (fun k hk => by
      rcases hk with rfl | hk | ⟨b, hb2, rfl⟩
      · exact .inl (.inl rfl)
      · exact .inl (.inr (.inl hk))
      · rcases List.mem_or_eq_of_mem_set hb2 with hb2 | rfl
        · exact .inl (.inr (.inr ⟨b, hb2, rfl⟩))
        · exact .inl (.inr (.inr ⟨_, List.mem_of_getElem? ha, rfl⟩)))
    have HNE : Hid (g ≠ s) := Lib.hid hgs
    have hiI : (i : Int) < (P.length : Int) := by omega
    have hlP : (P.length : Int) ≤ 256 := by omega
    have haI : (at_ : Int) < (p.length : Int) := by omega
    have hlp : (p.length : Int) ≤ 64 := by omega
    obtain ⟨n, hn⟩ : ∃ n, p.length = n := ⟨_, rfl⟩
    rw [hn] at HG HDEL hlp haI hal hpl hp1 hac
    clear hfi h hF hg ht ks kc hA hp ha hr hv hvg hgs hel hag hga hq hn
    unfold strV
    go_enter Tryz.func18, Tryz.ntmps18
    go_wp2_with fail
    refine (HFI.out).mono ?_
    rintro e w2 ⟨rfl, hb2⟩
    have HB2 := Lib.hid hb2
    clear hb2 HFI
    go_wp2_with fail
    have HCALL := Lib.hid (HDEL.out w2.drew (below_drew HB2.out))
    have hg1 := HG.out _ HB2.out
    have hwa : IntKind.i64.wrap ((at_ : Int) + 1) = (at_ : Int) + 1 := IntWalk.i64_in _ (by omega)
    clear HDEL HG
    refine wp_only ?_
    refine wp_region_held_drew (S := fun W => W.cell? ⟨s, 1, none⟩ = some (.slice (some ⟨g, 0, none⟩) P.length c)) (by kernel_rfl) (HC.out _ (below_drew HB2.out)) (fun hHeld => ?_)
    refine wpAnyH_take (i := 0) (oi := { dst := some 19, op := Op.move (Operand.tmp 0), type := 23, pos := "change.go:27", after := #[], guard := none }) (v := ?vv1) rfl (by kernel_rfl) (by kernel_rfl) (by kernel_rfl) (fun _ _ _ h => h) ?hy1 (by assumption) ?rest1
    case hy1 => (refine Or.inl ⟨by rfl, ?_⟩; intro W hSw; (try dsimp only at hSw); go_simp; (try with_reducible rfl))
    try simp only [Act.put, List.setIfInBounds_toArray, List.set_cons_zero, List.set_cons_succ]
    refine wpAnyH_take (i := 1) (oi := { dst := some 20, op := Op.nilCheck (Operand.tmp 19), type := 0, pos := "change.go:27", after := #[{ on := 0, ground := Ground.data }], guard := none }) (v := ?vv2) rfl (by kernel_rfl) (by kernel_rfl) (by kernel_rfl) (fun _ _ _ h => h) ?hy2 (by assumption) ?rest2
    case hy2 => (refine Or.inl ⟨by rfl, ?_⟩; intro W hSw; (try dsimp only at hSw); go_simp; (try with_reducible rfl))
    try simp only [Act.put, List.setIfInBounds_toArray, List.set_cons_zero, List.set_cons_succ]
    refine wpAnyH_take (i := 2) (oi := { dst := some 21, op := Op.fieldAddr 64 (Operand.tmp 20) 1, type := 0, pos := "change.go:27", after := #[{ on := 1, ground := Ground.data }], guard := none }) (v := ?vv3) rfl (by kernel_rfl) (by kernel_rfl) (by kernel_rfl) (fun _ _ _ h => h) ?hy3 (by assumption) ?rest3
    case hy3 => (refine Or.inl ⟨by rfl, ?_⟩; intro W hSw; (try dsimp only at hSw); go_simp; (try with_reducible rfl))
    try simp only [Act.put, List.setIfInBounds_toArray, List.set_cons_zero, List.set_cons_succ]
    refine wpAnyH_take (i := 3) (oi := { dst := some 22, op := Op.load 29 (Operand.tmp 21), type := 29, pos := "change.go:27", after := #[{ on := 2, ground := Ground.data }], guard := none }) (v := ?vv4) rfl (by kernel_rfl) (by kernel_rfl) (by kernel_rfl) (fun _ _ _ h => h) ?hy4 (by assumption) ?rest4
    case hy4 => (refine Or.inl ⟨by rfl, ?_⟩; intro W hSw; (try dsimp only at hSw); go_simp; (try with_reducible rfl))
    try simp only [Act.put, List.setIfInBounds_toArray, List.set_cons_zero, List.set_cons_succ]
    refine wpAnyH_take (i := 4) (oi := { dst := some 23, op := Op.move (Operand.tmp 5), type := 3, pos := "change.go:27", after := #[], guard := none }) (v := ?vv5) rfl (by kernel_rfl) (by kernel_rfl) (by kernel_rfl) (fun _ _ _ h => h) ?hy5 (by assumption) ?rest5
    case hy5 => (refine Or.inl ⟨by rfl, ?_⟩; intro W hSw; (try dsimp only at hSw); go_simp; (try with_reducible rfl))
    try simp only [Act.put, List.setIfInBounds_toArray, List.set_cons_zero, List.set_cons_succ]
    refine wpAnyH_take (i := 5) (oi := { dst := some 24, op := Op.move (Operand.tmp 0), type := 23, pos := "change.go:27", after := #[], guard := none }) (v := ?vv6) rfl (by kernel_rfl) (by kernel_rfl) (by kernel_rfl) (fun _ _ _ h => h) ?hy6 (by assumption) ?rest6
    case hy6 => (refine Or.inl ⟨by rfl, ?_⟩; intro W hSw; (try dsimp only at hSw); go_simp; (try with_reducible rfl))
    try simp only [Act.put, List.setIfInBounds_toArray, List.set_cons_zero, List.set_cons_succ]
    refine wpAnyH_take (i := 6) (oi := { dst := some 25, op := Op.nilCheck (Operand.tmp 24), type := 0, pos := "change.go:27", after := #[{ on := 5, ground := Ground.data }], guard := none }) (v := ?vv7) rfl (by kernel_rfl) (by kernel_rfl) (by kernel_rfl) (fun _ _ _ h => h) ?hy7 (by assumption) ?rest7
    case hy7 => (refine Or.inl ⟨by rfl, ?_⟩; intro W hSw; (try dsimp only at hSw); go_simp; (try with_reducible rfl))
    try simp only [Act.put, List.setIfInBounds_toArray, List.set_cons_zero, List.set_cons_succ]
    refine wpAnyH_take (i := 7) (oi := { dst := some 26, op := Op.fieldAddr 64 (Operand.tmp 25) 1, type := 0, pos := "change.go:27", after := #[{ on := 6, ground := Ground.data }], guard := none }) (v := ?vv8) rfl (by kernel_rfl) (by kernel_rfl) (by kernel_rfl) (fun _ _ _ h => h) ?hy8 (by assumption) ?rest8
    case hy8 => (refine Or.inl ⟨by rfl, ?_⟩; intro W hSw; (try dsimp only at hSw); go_simp; (try with_reducible rfl))
    try simp only [Act.put, List.setIfInBounds_toArray, List.set_cons_zero, List.set_cons_succ]
    refine wpAnyH_take (i := 8) (oi := { dst := some 27, op := Op.load 29 (Operand.tmp 26), type := 29, pos := "change.go:27", after := #[{ on := 7, ground := Ground.data }], guard := none }) (v := ?vv9) rfl (by kernel_rfl) (by kernel_rfl) (by kernel_rfl) (fun _ _ _ h => h) ?hy9 (by assumption) ?rest9
    case hy9 => (refine Or.inl ⟨by rfl, ?_⟩; intro W hSw; (try dsimp only at hSw); go_simp; (try with_reducible rfl))
    try simp only [Act.put, List.setIfInBounds_toArray, List.set_cons_zero, List.set_cons_succ]
    refine wpAnyH_take (i := 9) (oi := { dst := some 28, op := Op.move (Operand.tmp 5), type := 3, pos := "change.go:27", after := #[], guard := none }) (v := ?vv10) rfl (by kernel_rfl) (by kernel_rfl) (by kernel_rfl) (fun _ _ _ h => h) ?hy10 (by assumption) ?rest10
    case hy10 => (refine Or.inl ⟨by rfl, ?_⟩; intro W hSw; (try dsimp only at hSw); go_simp; (try with_reducible rfl))
    try simp only [Act.put, List.setIfInBounds_toArray, List.set_cons_zero, List.set_cons_succ]
    refine wpAnyH_take (i := 10) (oi := { dst := some 29, op := Op.indexAddr 29 (Operand.tmp 27) (Operand.tmp 28), type := 0, pos := "change.go:27", after := #[{ on := 8, ground := Ground.data }, { on := 9, ground := Ground.data }], guard := none }) (v := ?vv11) rfl (by kernel_rfl) (by kernel_rfl) (by kernel_rfl) (fun _ _ _ h => h) ?hy11 (by assumption) ?rest11
    case hy11 => (refine Or.inl ⟨by rfl, ?_⟩; intro W hSw; (try dsimp only at hSw); go_simp; (try with_reducible rfl))
    try simp only [Act.put, List.setIfInBounds_toArray, List.set_cons_zero, List.set_cons_succ]
    refine wpAnyH_take (i := 12) (oi := { dst := some 31, op := Op.move (Operand.tmp 6), type := 3, pos := "change.go:27", after := #[], guard := none }) (v := ?vv12) rfl (by kernel_rfl) (by kernel_rfl) (by kernel_rfl) (fun _ _ _ h => h) ?hy12 (by assumption) ?rest12
    case hy12 => (refine Or.inl ⟨by rfl, ?_⟩; intro W hSw; (try dsimp only at hSw); go_simp; (try with_reducible rfl))
    try simp only [Act.put, List.setIfInBounds_toArray, List.set_cons_zero, List.set_cons_succ]
    refine wpAnyH_take (i := 13) (oi := { dst := some 32, op := Op.move (Operand.tmp 6), type := 3, pos := "change.go:27", after := #[], guard := none }) (v := ?vv13) rfl (by kernel_rfl) (by kernel_rfl) (by kernel_rfl) (fun _ _ _ h => h) ?hy13 (by assumption) ?rest13
    case hy13 => (refine Or.inl ⟨by rfl, ?_⟩; intro W hSw; (try dsimp only at hSw); go_simp; (try with_reducible rfl))
    try simp only [Act.put, List.setIfInBounds_toArray, List.set_cons_zero, List.set_cons_succ]
    refine wpAnyH_take (i := 14) (oi := { dst := some 33, op := Op.binOp BinOp.add 3 (Operand.tmp 32) (Operand.const (Value.int IntKind.i64 1)) 3, type := 3, pos := "change.go:27", after := #[{ on := 13, ground := Ground.data }], guard := none }) (v := ?vv14) rfl (by kernel_rfl) (by kernel_rfl) (by kernel_rfl) (fun _ _ _ h => h) ?hy14 (by assumption) ?rest14
    case hy14 => (refine Or.inl ⟨by rfl, ?_⟩; intro W hSw; (try dsimp only at hSw); go_simp; (try with_reducible rfl))
    try simp only [Act.put, List.setIfInBounds_toArray, List.set_cons_zero, List.set_cons_succ]
    refine wpAnyH_ready (rs := [11]) (by kernel_rfl) (by simp) ?_
    refine AllReadyH.cons (o := { dst := some 30, op := Op.load 40 (Operand.tmp 29), type := 40, pos := "change.go:27", after := #[{ on := 10, ground := Ground.data }], guard := none }) rfl (fun K hK => ?step15) ?more15
    case more15 => exact AllReadyH.nil
    (go_simp)
    refine hK.out _ _ ?hS15 (fun hHeld => ?rr15)
    case hS15 => (exact HC.out _ (below_drew HB2.out))
    clear hK K
    try simp only [Act.put, List.setIfInBounds_toArray, List.set_cons_zero, List.set_cons_succ]
    refine wpAnyH_ready (rs := [15]) (by kernel_rfl) (by simp) ?_
    refine AllReadyH.cons (o := { dst := some 34, op := Op.call { callee := Callee.value (Operand.func 46), args := #[Operand.tmp 30, Operand.tmp 31, Operand.tmp 33], argTypes := #[40, 3, 3] }, type := 40, pos := "change.go:27", after := #[{ on := 11, ground := Ground.data }, { on := 12, ground := Ground.data }, { on := 14, ground := Ground.data }], guard := none }) rfl (fun K hK => ?step16) ?more16
    case more16 => exact AllReadyH.nil
    ((go_simp; go_at_call 46; refine (HCALL.out).mono ?_; rintro e w5 ⟨rfl, h3, h4, q1, q2, q3⟩; have HQ3 := Lib.hid q3; clear q3; go_wp2_with fail))
    refine hK.out _ _ ?hS16 (fun hHeld => ?rr16)
    case hS16 => (exact HQ3.out)
    clear hK K
    try simp only [Act.put, List.setIfInBounds_toArray, List.set_cons_zero, List.set_cons_succ]
    obtain ⟨xx, q1⟩ := Option.isSome_iff_exists.1 q1
    have HK5 : Hid ((w5.setCell ⟨g, i, none⟩ (.slice (some ⟨a.g, a.o, none⟩) (n - 1) a.cap)).cell? ⟨s, 1, none⟩ = some (.slice (some ⟨g, 0, none⟩) P.length c)) := Lib.hid (by rw [World.cell?_setCell_far _ _ _ _ (show g ≠ s from HNE.out)]; exact HQ3.out)
    have H3 := Lib.hid h3
    have H4 := Lib.hid h4
    clear h3 h4 HCALL
    refine wpAnyH_take (i := 16) (oi := { dst := some 35, op := Op.indexAddr 29 (Operand.tmp 22) (Operand.tmp 23), type := 0, pos := "change.go:27", after := #[{ on := 3, ground := Ground.data }, { on := 4, ground := Ground.data }, { on := 0, ground := Ground.phase }, { on := 1, ground := Ground.phase }, { on := 2, ground := Ground.phase }, { on := 3, ground := Ground.phase }, { on := 4, ground := Ground.phase }, { on := 5, ground := Ground.phase }, { on := 6, ground := Ground.phase }, { on := 7, ground := Ground.phase }, { on := 8, ground := Ground.phase }, { on := 9, ground := Ground.phase }, { on := 10, ground := Ground.phase }, { on := 11, ground := Ground.phase }, { on := 12, ground := Ground.phase }, { on := 13, ground := Ground.phase }, { on := 14, ground := Ground.phase }, { on := 15, ground := Ground.phase }], guard := none }) (v := ?vv17) rfl (by kernel_rfl) (by kernel_rfl) (by kernel_rfl) (fun _ _ _ h => h) ?hy17 (by assumption) ?rest17
    case hy17 => (refine Or.inl ⟨by rfl, ?_⟩; intro W hSw; (try dsimp only at hSw); go_simp; (try with_reducible rfl))
    try simp only [Act.put, List.setIfInBounds_toArray, List.set_cons_zero, List.set_cons_succ]
    refine wpAnyH_ready (rs := [17]) (by kernel_rfl) (by simp) ?_
    refine AllReadyH.cons (o := { dst := none, op := Op.store 40 (Operand.tmp 35) (Operand.tmp 34), type := 0, pos := "change.go:27", after := #[{ on := 16, ground := Ground.data }, { on := 15, ground := Ground.data }, { on := 15, ground := Ground.chain }, { on := 0, ground := Ground.phase }, { on := 1, ground := Ground.phase }, { on := 2, ground := Ground.phase }, { on := 3, ground := Ground.phase }, { on := 4, ground := Ground.phase }, { on := 5, ground := Ground.phase }, { on := 6, ground := Ground.phase }, { on := 7, ground := Ground.phase }, { on := 8, ground := Ground.phase }, { on := 9, ground := Ground.phase }, { on := 10, ground := Ground.phase }, { on := 11, ground := Ground.phase }, { on := 12, ground := Ground.phase }, { on := 13, ground := Ground.phase }, { on := 14, ground := Ground.phase }, { on := 15, ground := Ground.phase }], guard := none }) rfl (fun K hK => ?step18) ?more18
    case more18 => exact AllReadyH.nil
    (go_simp)
    refine hK.out _ _ ?hS18 (fun hHeld => ?rr18)
    case hS18 => (exact HK5.out)
    clear hK K
    try simp only [Act.put, List.setIfInBounds_toArray, List.set_cons_zero, List.set_cons_succ]
    refine wpAnyH_done (by kernel_rfl) ?_ _
    clear hHeld q1 q2 HC hg1
    dsimp only [onlyN]
    obtain ⟨W6, hW6⟩ : ∃ W6, W6 = w5.setCell ⟨g, i, none⟩ (.slice (some ⟨a.g, a.o, none⟩) (n - 1) a.cap) := ⟨_, rfl⟩
    rw [← hW6] at H3 H4 ⊢
    have HTC := Lib.hid (HTIDY.out W6 _ H3.out)
    have HFIN := Lib.hid (fun (W : World) (hq : StPost W6 s most v (L.set i a) (tidyP most (P.set i q) i) W) => StPost.trans H4.out HOW.out hq)
    clear hW6 HTIDY HK5 H3 H4 HOW HB2
    go_wp2_with fail
    refine (HTC.out).mono ?_
    rintro e w7 ⟨rfl, hpost⟩
    have HF7 := Lib.hid (HFIN.out _ hpost)
    clear hpost HFIN HTC
    go_wp2_with fail
    go_ret
    exact ⟨rfl, HF7.out⟩
end Go.Proofs.YtkkembbeejlomaaGreatDoor
