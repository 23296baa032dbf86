/- lock: give. lock: one is taken out of a set. -/
import Derived.Test.YtmchmlkbpocboaaGreatDoorZLokB
set_option linter.unusedSimpArgs false
set_option linter.unusedVariables false
set_option linter.unnecessarySimpa false
namespace Go.Proofs.YtmchmlkbpocboaaGreatDoor
open Go.RowKit

theorem SetI.touch {S : Nat → Prop} {w w' : World} {g : Nat} {L : List Int} (h : SetI w g L) (ht : Touch S w w') (hS : ¬ S g) : SetI w' g L := h.keep (ht.block g h.lt hS)
set_option maxRecDepth 100000 in
set_option maxHeartbeats 2000000 in
theorem give_any {w : World} {b gh : Nat} {rv : Value} {l : Ln} {c : Cm} (h : LnAt w b gh rv l) (hw : InR64 c.who) : Calls Tryz.prog 71 #[.pointer (some ⟨b, 0, none⟩), .agg #[.int .i64 c.who, .bool c.mine]] w fun e w' => e = .returned (.tuple #[]) ∧ LnAt w' b gh rv (giveP l c) ∧ Touch (fun k => k = b ∨ k = gh) w w' := by
  have hb1 := below_new (w := w) (.cells #[.int .i64 c.who, .bool c.mine] 106)
  have hx1 := alloc_at w (.cells #[.int .i64 c.who, .bool c.mine] 106)
  obtain ⟨w1, hw1⟩ : ∃ w1, w1 = w.alloc (.cells #[.int .i64 c.who, .bool c.mine] 106) := ⟨_, rfl⟩
  rw [← hw1] at hb1 hx1
  have HW1 := Lib.hid hw1
  have HB1 := Lib.hid hb1
  have h1 := h.below hb1
  have HH := Lib.hid h1
  have HWB := Lib.hid (heap_lt h.head)
  have HWG := Lib.hid h.held.lt
  obtain ⟨w3, hrun, hset, ht⟩ := (h1.held.keep (w' := w1.drew) rfl).put hw
  have hb3 := (ht.block b (heap_lt h1.head) (fun e => h1.off.1 e.symm)).trans h1.head
  have hx3 := (ht.block w.heap.size (heap_lt hx1) (fun e => by have := h.held.lt; omega)).trans hx1
  have k1 : w3.cell? ⟨b, 1, none⟩ = some (.bool l.mine) := cell_of hb3 1
  have f1 := free0 hb3 1
  have c1 : w3.cell? ⟨w.heap.size, 1, none⟩ = some (.bool c.mine) := cell_of hx3 1
  have HS : Hid (w1.drew.cell? ⟨b, 0, none⟩ = some (.map (some gh)) ∧ w1.drew.cell? ⟨w.heap.size, 0, none⟩ = some (.int .i64 c.who)) := Lib.hid ⟨cell_of h1.head 0, cell_of hx1 0⟩
  have HS3 : Hid (w3.cell? ⟨b, 0, none⟩ = some (.map (some gh)) ∧ w3.cell? ⟨w.heap.size, 0, none⟩ = some (.int .i64 c.who)) := Lib.hid ⟨cell_of hb3 0, cell_of hx3 0⟩
  have HT := Lib.hid ht
  have HSET := Lib.hid hset
  have HB3 := Lib.hid hb3
  clear h hb1 hx1 hw1 h1 hset ht hb3 hx3
  go_enter Tryz.func71, Tryz.ntmps71
  go_wp2_with fail
  rw [← HW1.out]
  refine wp_region_held_drew (S := fun W => W.cell? ⟨b, 0, none⟩ = some (.map (some gh)) ∧ W.cell? ⟨w.heap.size, 0, none⟩ = some (.int .i64 c.who)) (by kernel_rfl) HS.out (fun hHeld => ?_)
  refine wpAnyH_take (i := 0) (oi := { dst := some 4, op := Op.move (Operand.tmp 0), type := 71, pos := "lane.go:93", after := #[], guard := none }) (v := ?vv1) rfl (by kernel_rfl) (by kernel_rfl) (by kernel_rfl) (fun _ _ _ h => h) ?hy1 (by assumption) ?rest1
  case hy1 => (refine Or.inl ⟨by rfl, ?_⟩; intro W hSw; (try dsimp only at hSw); go_simp; (try with_reducible rfl))
  try simp only [Act.put, List.setIfInBounds_toArray, List.set_cons_zero, List.set_cons_succ]
  refine wpAnyH_take (i := 1) (oi := { dst := some 5, op := Op.nilCheck (Operand.tmp 4), type := 0, pos := "lane.go:93", after := #[{ on := 0, ground := Ground.data }], guard := none }) (v := ?vv2) rfl (by kernel_rfl) (by kernel_rfl) (by kernel_rfl) (fun _ _ _ h => h) ?hy2 (by assumption) ?rest2
  case hy2 => (refine Or.inl ⟨by rfl, ?_⟩; intro W hSw; (try dsimp only at hSw); go_simp; (try with_reducible rfl))
  try simp only [Act.put, List.setIfInBounds_toArray, List.set_cons_zero, List.set_cons_succ]
  refine wpAnyH_take (i := 2) (oi := { dst := some 6, op := Op.fieldAddr 84 (Operand.tmp 5) 0, type := 0, pos := "lane.go:93", after := #[{ on := 1, ground := Ground.data }], guard := none }) (v := ?vv3) rfl (by kernel_rfl) (by kernel_rfl) (by kernel_rfl) (fun _ _ _ h => h) ?hy3 (by assumption) ?rest3
  case hy3 => (refine Or.inl ⟨by rfl, ?_⟩; intro W hSw; (try dsimp only at hSw); go_simp; (try with_reducible rfl))
  try simp only [Act.put, List.setIfInBounds_toArray, List.set_cons_zero, List.set_cons_succ]
  refine wpAnyH_take (i := 3) (oi := { dst := some 7, op := Op.load 80 (Operand.tmp 6), type := 80, pos := "lane.go:93", after := #[{ on := 2, ground := Ground.data }], guard := none }) (v := ?vv4) rfl (by kernel_rfl) (by kernel_rfl) (by kernel_rfl) (fun _ _ _ h => h) ?hy4 (by assumption) ?rest4
  case hy4 => (refine Or.inl ⟨by rfl, ?_⟩; intro W hSw; (try dsimp only at hSw); go_simp; (try with_reducible rfl))
  try simp only [Act.put, List.setIfInBounds_toArray, List.set_cons_zero, List.set_cons_succ]
  refine wpAnyH_take (i := 4) (oi := { dst := some 8, op := Op.fieldAddr 106 (Operand.tmp 3) 0, type := 0, pos := "lane.go:93", after := #[], guard := none }) (v := ?vv5) rfl (by kernel_rfl) (by kernel_rfl) (by kernel_rfl) (fun _ _ _ h => h) ?hy5 (by assumption) ?rest5
  case hy5 => (refine Or.inl ⟨by rfl, ?_⟩; intro W hSw; (try dsimp only at hSw); go_simp; (try with_reducible rfl))
  try simp only [Act.put, List.setIfInBounds_toArray, List.set_cons_zero, List.set_cons_succ]
  refine wpAnyH_take (i := 5) (oi := { dst := some 9, op := Op.load 3 (Operand.tmp 8), type := 3, pos := "lane.go:93", after := #[{ on := 4, ground := Ground.data }], guard := none }) (v := ?vv6) rfl (by kernel_rfl) (by kernel_rfl) (by kernel_rfl) (fun _ _ _ h => h) ?hy6 (by assumption) ?rest6
  case hy6 => (refine Or.inl ⟨by rfl, ?_⟩; intro W hSw; (try dsimp only at hSw); go_simp; (try with_reducible rfl))
  try simp only [Act.put, List.setIfInBounds_toArray, List.set_cons_zero, List.set_cons_succ]
  refine wpAnyH_take (i := 6) (oi := { dst := some 10, op := Op.build 81 #[], type := 81, pos := "lane.go:93", after := #[], guard := none }) (v := ?vv7) rfl (by kernel_rfl) (by kernel_rfl) (by kernel_rfl) (fun _ _ _ h => h) ?hy7 (by assumption) ?rest7
  case hy7 => (refine Or.inl ⟨by rfl, ?_⟩; intro W hSw; (try dsimp only at hSw); go_simp; (try with_reducible rfl))
  try simp only [Act.put, List.setIfInBounds_toArray, List.set_cons_zero, List.set_cons_succ]
  refine wpAnyH_ready (rs := [7]) (by kernel_rfl) (by simp) ?_
  refine AllReadyH.cons (o := { dst := none, op := Op.mapUpdate 80 (Operand.tmp 7) (Operand.tmp 9) (Operand.tmp 10), type := 0, pos := "lane.go:93", after := #[{ on := 3, ground := Ground.data }, { on := 5, ground := Ground.data }, { on := 6, ground := Ground.data }, { on := 0, ground := Ground.phase }, { on := 1, ground := Ground.phase }, { on := 2, ground := Ground.phase }, { on := 3, ground := Ground.phase }, { on := 4, ground := Ground.phase }, { on := 5, ground := Ground.phase }, { on := 6, ground := Ground.phase }], guard := none }) rfl (fun K hK => ?step8) ?more8
  case more8 => exact AllReadyH.nil
  ((go_simp))
  refine hK.out _ _ ?hS8 (fun hHeld => ?rr8)
  case hS8 => (exact HS3.out)
  clear hK K
  try simp only [Act.put, List.setIfInBounds_toArray, List.set_cons_zero, List.set_cons_succ]
  refine wpAnyH_done (by kernel_rfl) ?_ _
  clear hHeld HS HS3
  go_wp2_with fail
  first | go_end0 | (refine bodyPost_ret (v := .tuple #[]) (by simp [results, Tryz.results71, go_sem]) rfl ?_)
  refine ⟨rfl, ?_, ?_⟩
  · have hs : Touch (fun k => k = b) w3 (w3.setCell ⟨b, 1, none⟩ (.bool c.mine)) := (Touch.refl (fun k => k = b) w3).setCell ⟨b, 1, none⟩ (fun _ => rfl) _
    have hh := set_at HB3.out 1 (.bool c.mine)
    have hh2 : (w3.setCell ⟨b, 1, none⟩ (.bool c.mine)).heap[b]? = some (.cells #[.map (some gh), .bool c.mine, rv] 84 (0, 0)) := by simpa using hh
    refine ⟨hh2, ?_, ?_, HH.out.nums, HH.out.off⟩
    · exact HSET.out.touch hs (fun e => HH.out.off.1 e)
    · have hr := (HH.out.row.touch ((Touch.refl (fun k => k = gh) w1).drew.trans HT.out (fun k _ e => e)) (fun g hg e => HH.out.off.2.2 (by rw [hg, e]))).touch hs (fun g hg e => HH.out.off.2.1 (by rw [hg, e]))
      exact hr
  · have hs : Touch (fun k => k = b) w3 (w3.setCell ⟨b, 1, none⟩ (.bool c.mine)) := (Touch.refl (fun k => k = b) w3).setCell ⟨b, 1, none⟩ (fun _ => rfl) _
    have h13 : Touch (fun k => k = gh) w1 w3 := (Touch.refl (fun k => k = gh) w1).drew.trans HT.out (fun k _ e => e)
    exact ((Touch.of_below (S := fun k => k = b ∨ k = gh) HB1.out).trans h13 (fun k _ e => .inr e)).trans hs (fun k _ e => .inl e)
end Go.Proofs.YtmchmlkbpocboaaGreatDoor

namespace Go.Proofs.YtmchmlkbpocboaaGreatDoor
open Go.RowKit
open Go.Maps (Keyed)

theorem erase_filter : ∀ {S : List Int} {j : Nat} {x : Int}, S.Nodup → S[j]? = some x → S.eraseIdx j = S.filter (· != x)
  | [], _, _, _, h => by cases h
  | y :: S, 0, x, hn, h => by
    cases h
    have hn2 := List.nodup_cons.1 hn
    rw [List.eraseIdx_cons_zero, List.filter_cons, if_neg (by simp), filter_none hn2.1]
  | y :: S, j + 1, x, hn, h => by
    have hn2 := List.nodup_cons.1 hn
    have hj : S[j]? = some x := h
    have hyx : y ≠ x := fun e => hn2.1 (e ▸ List.mem_of_getElem? hj)
    rw [List.eraseIdx_cons_succ, List.filter_cons, if_pos (by simpa using hyx), erase_filter hn2.2 hj]
theorem map_erase {α β : Type} (f : α → β) : ∀ (l : List α) (j : Nat), (l.eraseIdx j).map f = (l.map f).eraseIdx j
  | [], _ => rfl
  | a :: l, 0 => rfl
  | a :: l, j + 1 => by
    show f a :: (l.eraseIdx j).map f = f a :: (l.map f).eraseIdx j
    rw [map_erase f l j]
section
variable {P : Program} {K E M : TypeId} {w : World} {r : Nat} {L : List MapEntry} {clock : Nat}
theorem MapIs.del_miss (h : MapIs P K w r L clock) (KK : Keyed P K) (hM : P.underlying M = some (.map K E)) (ty : TypeId) {x : Value} {lx : Lit} (hx : keyOf P K x = some lx) (hn : ∀ e ∈ L, e.key ≠ x) :
    (Builtin.delete_ #[M, K] ty #[.map (some r), x]).run P w = .ok (.tuple #[]) { w with heap := w.heap.setIfInBounds r (.map L.toArray clock) } ∧
    MapIs P K { w with heap := w.heap.setIfInBounds r (.map L.toArray clock) } r L clock := by
  constructor
  · simp [Builtin.delete_, run_underlying hM, MapKept.run_getObj_map h.at_, KK.check w _ hx, h.find_miss KK hx hn, MapKept.run_setObj_map _ h.at_, Result.andThen]
  · exact ⟨by simp [h.lt], h.keys, h.one, h.born, h.apart⟩
end
theorem SetI.del_in {w : World} {g : Nat} {S : List Int} (h : SetI w g S) (ty : TypeId) {x : Int} (hr : InR64 x) (hx : x ∈ S) : ∃ w', (Builtin.delete_ #[80, 3] ty #[.map (some g), .int .i64 x]).run Tryz.prog w = .ok (.tuple #[]) w' ∧ SetI w' g (S.filter (· != x)) ∧ Touch (fun k => k = g) w w' := by
  have hnd := h.nodup
  obtain ⟨L, c, h1, hv, hk, hin⟩ := h
  obtain ⟨j, hj⟩ := List.getElem?_of_mem hx
  obtain ⟨e, he, ek⟩ := SetI.at hk hj
  obtain ⟨r1, r2⟩ := h1.del_hit keyedI Tryz.underlying80 ty (keyI hr) he ek
  refine ⟨_, r1, ⟨_, _, r2, fun f hf => hv f ((List.eraseIdx_sublist L j).subset hf), ?_, fun y hy => hin y (List.mem_filter.1 hy).1⟩, (Touch.refl (fun k => k = g) w).set g _ (fun _ => rfl)⟩
  rw [← erase_filter hnd hj, map_erase, hk, map_erase]
theorem SetI.del {w : World} {g : Nat} {S : List Int} (h : SetI w g S) (ty : TypeId) {x : Int} (hr : InR64 x) : ∃ w', (Builtin.delete_ #[80, 3] ty #[.map (some g), .int .i64 x]).run Tryz.prog w = .ok (.tuple #[]) w' ∧ SetI w' g (S.filter (· != x)) ∧ Touch (fun k => k = g) w w' := by
  by_cases hx : x ∈ S
  · exact h.del_in ty hr hx
  · rw [filter_none hx]
    obtain ⟨L, c, h1, hv, hk, hin⟩ := h
    obtain ⟨r1, r2⟩ := h1.del_miss keyedI Tryz.underlying80 ty (keyI hr) (SetI.miss hk hx)
    exact ⟨_, r1, ⟨_, _, r2, hv, hk, hin⟩, (Touch.refl (fun k => k = g) w).set g _ (fun _ => rfl)⟩
end Go.Proofs.YtmchmlkbpocboaaGreatDoor
