/- mess.Encode. -/
import Derived.Test.YtfddlhcdlgdofaaGreatDoorZMecD
import Derived.Test.YtfddlhcdlgdofaaGreatDoorZMecB
set_option linter.unusedSimpArgs false
set_option linter.unusedVariables false
set_option linter.unnecessarySimpa false
namespace Go.Proofs.YtfddlhcdlgdofaaGreatDoor
open Go.RowKit Go.Shelf

/-- The cells of a message's box. -/
def BoxM (g : Nat) (m : MsgV) (tA : Option Addr) (tc : Nat) (oA : Option Addr) (oc : Nat) (W : World) : Prop :=
  W.cell? ⟨g, 0, none⟩ = some (.int .i64 m.kd) ∧ W.cell? ⟨g, 1, none⟩ = some (.int .i64 m.fr) ∧ W.cell? ⟨g, 2, none⟩ = some (.int .i64 m.tt) ∧ W.cell? ⟨g, 3, none⟩ = some (.int .i64 m.g) ∧ W.cell? ⟨g, 4, none⟩ = some (.int .i64 m.nd) ∧ W.cell? ⟨g, 5, none⟩ = some (.int .i64 m.tr) ∧
  W.cell? ⟨g, 6, none⟩ = some (.int .i64 m.lw) ∧ W.cell? ⟨g, 7, none⟩ = some (.int .i64 m.co) ∧ W.cell? ⟨g, 8, none⟩ = some (.int .i64 m.ti) ∧ W.cell? ⟨g, 9, none⟩ = some (.slice tA m.tl.length tc) ∧ W.cell? ⟨g, 10, none⟩ = some (.slice oA m.os.length oc)
def msgCells (m : MsgV) (tA : Option Addr) (tc : Nat) (oA : Option Addr) (oc : Nat) : Array Value := #[.int .i64 m.kd, .int .i64 m.fr, .int .i64 m.tt, .int .i64 m.g, .int .i64 m.nd, .int .i64 m.tr, .int .i64 m.lw, .int .i64 m.co, .int .i64 m.ti, .slice tA m.tl.length tc, .slice oA m.os.length oc]
theorem boxM_of {W W' : World} {g : Nat} {m : MsgV} {tA : Option Addr} {tc : Nat} {oA : Option Addr} {oc : Nat} {T : TypeId} (hat : W.heap[g]? = some (.cells (msgCells m tA tc oA oc) T (0, 0))) (hb : Below W.heap.size W W') : BoxM g m tA tc oA oc W' := by
  have hg := heap_lt hat
  have key : ∀ i, W'.cell? ⟨g, i, none⟩ = (msgCells m tA tc oA oc)[i]? := fun i => (hb.cell (p := ⟨g, i, none⟩) hg).trans (cell_of hat i)
  exact ⟨key 0, key 1, key 2, key 3, key 4, key 5, key 6, key 7, key 8, key 9, key 10⟩
theorem mayM_ok {m : MsgV} (h : mayM m = true) (hi : MsgIn m) : OpsOk m.os := fun o ho => by
  have F := mayM_fits h
  have h1 := F.may o ho
  have := mayO_key h1
  have := mayO_kind h1
  exact ⟨by omega, by omega, hi.ops o ho⟩
set_option maxRecDepth 100000 in
set_option maxHeartbeats 4000000 in
theorem Encode_not {w : World} {v : Value} {m : MsgV} (hG : Glob w) (h : MsgIs w v m) (hm : mayM m = false) :
    Calls Tryz.prog 99 #[v] w fun e w' => e = .returned (.slice none 0 0) ∧ Below w.heap.size w w' := by
  have HMY := Lib.hid (fun W (hW : Below w.heap.size w W) => May_any (hG.below hW) (h.below hW))
  rw [hm] at HMY
  obtain ⟨tA, tc, oA, oc, rfl, _⟩ := h
  have HB := Lib.hid (below_new (w := w) (.cells (msgCells m tA tc oA oc) 50))
  unfold msgCells at HB
  clear hG hm
  obtain ⟨kd, fr, tt, g, nd, tr, lw, co, ti, tl, os⟩ := m
  simp only at HMY HB ⊢
  go_enter Tryz.func99, Tryz.ntmps99
  go_wp2_with fail
  refine (HMY.out _ HB.out).mono ?_
  rintro e w1 ⟨rfl, hb1⟩
  have HB1 := Lib.hid (HB.out.trans (hb1.mono HB.out.size))
  clear hb1
  go_wp2_with fail
  go_ret
  exact ⟨rfl, HB1.out⟩
set_option maxRecDepth 100000 in
set_option maxHeartbeats 8000000 in
theorem Encode_yes {w : World} {v : Value} {m : MsgV} (hG : Glob w) (hMv : Mov w) (h : MsgIs w v m) (hm : mayM m = true) (hi : MsgIn m) :
    Calls Tryz.prog 99 #[v] w fun e w' => ∃ v', e = .returned v' ∧ OwnBy w' w.heap.size v' (encM m) ∧ Below w.heap.size w w' := by
  have HMY := Lib.hid (fun W (hW : Below w.heap.size w W) => May_any (hG.below hW) (h.below hW))
  rw [hm] at HMY
  have F := mayM_fits hm
  have HOK := mayM_ok hm hi
  have hlen := bodyM_le hm hi
  obtain ⟨tA, tc, oA, oc, rfl, ht, ho, hk⟩ := h
  obtain ⟨k0, k1, k2, k3, k4, k5, k6, k7, k8, k9, k10, k11⟩ := F
  have hob := opsB_le k10 (fun o h => ⟨k11 o h, hi.ops o h⟩)
  have hW0 := below_new (w := w) (.cells (msgCells m tA tc oA oc) 50)
  have hat := alloc_at w (.cells (msgCells m tA tc oA oc) 50)
  have HB0 := Lib.hid hW0
  have HSW := Lib.hid (fun W (hW : Below (w.alloc (.cells (msgCells m tA tc oA oc) 50)).heap.size (w.alloc (.cells (msgCells m tA tc oA oc) 50)) W) => boxM_of hat hW)
  unfold msgCells BoxM at HSW
  unfold msgCells at HB0
  obtain ⟨kd, fr, tt, g, nd, tr, lw, co, ti, tl, os⟩ := m
  simp only at k0 k1 k2 k3 k4 k5 k6 k7 k8 k9 k10 k11 ht ho hk HMY HSW HB0 hob HOK ⊢
  obtain ⟨tn, rfl⟩ : ∃ n : Nat, ti = n := ⟨ti.toNat, by omega⟩
  have HNS := Lib.hid (fun W v (h : NumsAt W v [kd, fr, tt, g, nd, tr, lw, co]) => nats_any h (fun x hx => by simp only [List.mem_cons, List.not_mem_nil, or_false] at hx; omega) (by simp))
  have HNT := Lib.hid (fun W => onat_any tn (by omega) W)
  have HNU := Lib.hid (fun W (hW : Below w.heap.size w W) => nums_any (ht.below hW) hi.told (by omega))
  have HOE := Lib.hid (fun W (hW : Below w.heap.size w W) => opsenc_any (ho.below hW) HOK (by omega))
  have HST := Lib.hid (fun W => ostr_any ⟨(opsB os).toArray⟩ (by rw [size_mk]; omega) W)
  have HMV := Lib.hid (fun W (hW : Below w.heap.size w W) => hMv.below hW)
  have HBD : Hid ([natsB [kd, fr, tt, g, nd, tr, lw, co], natB tn, numsB tl, strB ⟨(opsB os).toArray⟩].flatten = bodyM ⟨kd, fr, tt, g, nd, tr, lw, co, tn, tl, os⟩ ∧ (bodyM ⟨kd, fr, tt, g, nd, tr, lw, co, tn, tl, os⟩).length ≤ 1000) := Lib.hid (by
    refine ⟨?_, hlen⟩
    unfold bodyM
    simp)
  have htw : IntKind.u64.wrap (tn : Int) = (tn : Int) := by rw [IntKind.wrap_u64]; omega
  clear hG hMv hm hi ht ho hk hlen hob HOK k0 k1 k2 k3 k4 k5 k6 k7 k8 k9 k10 k11 hW0 hat
  go_enter Tryz.func99, Tryz.ntmps99
  go_wp2_with fail
  refine (HMY.out _ HB0.out).mono ?_
  rintro e w1 ⟨rfl, hb1⟩
  have HB1 := Lib.hid (HB0.out.trans (hb1.mono HB0.out.size))
  have HBX := Lib.hid (fun W (hW : Below w1.heap.size w1 W) => HSW.out W (hb1.trans (hW.mono hb1.size)))
  clear hb1 HMY
  go_wp2_with fail
  refine wp_only ?_
  refine wp_region_held_drew (S := fun W => W.cell? ⟨w.heap.size, 0, none⟩ = some (.int .i64 kd) ∧ W.cell? ⟨w.heap.size, 1, none⟩ = some (.int .i64 fr) ∧ W.cell? ⟨w.heap.size, 2, none⟩ = some (.int .i64 tt) ∧ W.cell? ⟨w.heap.size, 3, none⟩ = some (.int .i64 g) ∧ W.cell? ⟨w.heap.size, 4, none⟩ = some (.int .i64 nd) ∧ W.cell? ⟨w.heap.size, 5, none⟩ = some (.int .i64 tr) ∧ W.cell? ⟨w.heap.size, 6, none⟩ = some (.int .i64 lw) ∧ W.cell? ⟨w.heap.size, 7, none⟩ = some (.int .i64 co) ∧ W.cell? ⟨w.heap.size, 8, none⟩ = some (.int .i64 (tn : Int)) ∧ W.cell? ⟨w.heap.size, 9, none⟩ = some (.slice tA tl.length tc) ∧ W.cell? ⟨w.heap.size, 10, none⟩ = some (.slice oA os.length oc)) (by kernel_rfl) (HBX.out _ (below_drew (Below.refl _ _))) (fun hHeld => ?_)
  refine wpAnyH_take (i := 0) (oi := { dst := some 6, op := Op.fieldAddr 50 (Operand.tmp 1) 0, type := 0, pos := "bytes.go:15", after := #[], guard := none }) (v := ?vv1) rfl (by kernel_rfl) (by kernel_rfl) (by kernel_rfl) (fun _ _ _ h => h) ?hy1 (by assumption) ?rest1
  case hy1 => (refine Or.inl ⟨by rfl, ?_⟩; intro W hSw; (try dsimp only at hSw); go_simp; (try with_reducible rfl))
  try simp only [Act.put, List.setIfInBounds_toArray, List.set_cons_zero, List.set_cons_succ]
  refine wpAnyH_take (i := 1) (oi := { dst := some 7, op := Op.load 3 (Operand.tmp 6), type := 3, pos := "bytes.go:15", after := #[{ on := 0, ground := Ground.data }], guard := none }) (v := ?vv2) rfl (by kernel_rfl) (by kernel_rfl) (by kernel_rfl) (fun _ _ _ h => h) ?hy2 (by assumption) ?rest2
  case hy2 => (refine Or.inl ⟨by rfl, ?_⟩; intro W hSw; (try dsimp only at hSw); go_simp; (try with_reducible rfl))
  try simp only [Act.put, List.setIfInBounds_toArray, List.set_cons_zero, List.set_cons_succ]
  refine wpAnyH_take (i := 2) (oi := { dst := some 8, op := Op.fieldAddr 50 (Operand.tmp 1) 1, type := 0, pos := "bytes.go:15", after := #[], guard := none }) (v := ?vv3) rfl (by kernel_rfl) (by kernel_rfl) (by kernel_rfl) (fun _ _ _ h => h) ?hy3 (by assumption) ?rest3
  case hy3 => (refine Or.inl ⟨by rfl, ?_⟩; intro W hSw; (try dsimp only at hSw); go_simp; (try with_reducible rfl))
  try simp only [Act.put, List.setIfInBounds_toArray, List.set_cons_zero, List.set_cons_succ]
  refine wpAnyH_take (i := 3) (oi := { dst := some 9, op := Op.load 3 (Operand.tmp 8), type := 3, pos := "bytes.go:15", after := #[{ on := 2, ground := Ground.data }], guard := none }) (v := ?vv4) rfl (by kernel_rfl) (by kernel_rfl) (by kernel_rfl) (fun _ _ _ h => h) ?hy4 (by assumption) ?rest4
  case hy4 => (refine Or.inl ⟨by rfl, ?_⟩; intro W hSw; (try dsimp only at hSw); go_simp; (try with_reducible rfl))
  try simp only [Act.put, List.setIfInBounds_toArray, List.set_cons_zero, List.set_cons_succ]
  refine wpAnyH_take (i := 4) (oi := { dst := some 10, op := Op.fieldAddr 50 (Operand.tmp 1) 2, type := 0, pos := "bytes.go:15", after := #[], guard := none }) (v := ?vv5) rfl (by kernel_rfl) (by kernel_rfl) (by kernel_rfl) (fun _ _ _ h => h) ?hy5 (by assumption) ?rest5
  case hy5 => (refine Or.inl ⟨by rfl, ?_⟩; intro W hSw; (try dsimp only at hSw); go_simp; (try with_reducible rfl))
  try simp only [Act.put, List.setIfInBounds_toArray, List.set_cons_zero, List.set_cons_succ]
  refine wpAnyH_take (i := 5) (oi := { dst := some 11, op := Op.load 3 (Operand.tmp 10), type := 3, pos := "bytes.go:15", after := #[{ on := 4, ground := Ground.data }], guard := none }) (v := ?vv6) rfl (by kernel_rfl) (by kernel_rfl) (by kernel_rfl) (fun _ _ _ h => h) ?hy6 (by assumption) ?rest6
  case hy6 => (refine Or.inl ⟨by rfl, ?_⟩; intro W hSw; (try dsimp only at hSw); go_simp; (try with_reducible rfl))
  try simp only [Act.put, List.setIfInBounds_toArray, List.set_cons_zero, List.set_cons_succ]
  refine wpAnyH_take (i := 6) (oi := { dst := some 12, op := Op.fieldAddr 50 (Operand.tmp 1) 3, type := 0, pos := "bytes.go:15", after := #[], guard := none }) (v := ?vv7) rfl (by kernel_rfl) (by kernel_rfl) (by kernel_rfl) (fun _ _ _ h => h) ?hy7 (by assumption) ?rest7
  case hy7 => (refine Or.inl ⟨by rfl, ?_⟩; intro W hSw; (try dsimp only at hSw); go_simp; (try with_reducible rfl))
  try simp only [Act.put, List.setIfInBounds_toArray, List.set_cons_zero, List.set_cons_succ]
  refine wpAnyH_take (i := 7) (oi := { dst := some 13, op := Op.fieldAddr 48 (Operand.tmp 12) 0, type := 0, pos := "bytes.go:15", after := #[{ on := 6, ground := Ground.data }], guard := none }) (v := ?vv8) rfl (by kernel_rfl) (by kernel_rfl) (by kernel_rfl) (fun _ _ _ h => h) ?hy8 (by assumption) ?rest8
  case hy8 => (refine Or.inl ⟨by rfl, ?_⟩; intro W hSw; (try dsimp only at hSw); go_simp; (try with_reducible rfl))
  try simp only [Act.put, List.setIfInBounds_toArray, List.set_cons_zero, List.set_cons_succ]
  refine wpAnyH_take (i := 8) (oi := { dst := some 14, op := Op.load 3 (Operand.tmp 13), type := 3, pos := "bytes.go:15", after := #[{ on := 7, ground := Ground.data }], guard := none }) (v := ?vv9) rfl (by kernel_rfl) (by kernel_rfl) (by kernel_rfl) (fun _ _ _ h => h) ?hy9 (by assumption) ?rest9
  case hy9 => (refine Or.inl ⟨by rfl, ?_⟩; intro W hSw; (try dsimp only at hSw); go_simp; (try with_reducible rfl))
  try simp only [Act.put, List.setIfInBounds_toArray, List.set_cons_zero, List.set_cons_succ]
  refine wpAnyH_take (i := 9) (oi := { dst := some 15, op := Op.fieldAddr 50 (Operand.tmp 1) 3, type := 0, pos := "bytes.go:15", after := #[], guard := none }) (v := ?vv10) rfl (by kernel_rfl) (by kernel_rfl) (by kernel_rfl) (fun _ _ _ h => h) ?hy10 (by assumption) ?rest10
  case hy10 => (refine Or.inl ⟨by rfl, ?_⟩; intro W hSw; (try dsimp only at hSw); go_simp; (try with_reducible rfl))
  try simp only [Act.put, List.setIfInBounds_toArray, List.set_cons_zero, List.set_cons_succ]
  refine wpAnyH_take (i := 10) (oi := { dst := some 16, op := Op.fieldAddr 48 (Operand.tmp 15) 1, type := 0, pos := "bytes.go:15", after := #[{ on := 9, ground := Ground.data }], guard := none }) (v := ?vv11) rfl (by kernel_rfl) (by kernel_rfl) (by kernel_rfl) (fun _ _ _ h => h) ?hy11 (by assumption) ?rest11
  case hy11 => (refine Or.inl ⟨by rfl, ?_⟩; intro W hSw; (try dsimp only at hSw); go_simp; (try with_reducible rfl))
  try simp only [Act.put, List.setIfInBounds_toArray, List.set_cons_zero, List.set_cons_succ]
  refine wpAnyH_take (i := 11) (oi := { dst := some 17, op := Op.load 3 (Operand.tmp 16), type := 3, pos := "bytes.go:15", after := #[{ on := 10, ground := Ground.data }], guard := none }) (v := ?vv12) rfl (by kernel_rfl) (by kernel_rfl) (by kernel_rfl) (fun _ _ _ h => h) ?hy12 (by assumption) ?rest12
  case hy12 => (refine Or.inl ⟨by rfl, ?_⟩; intro W hSw; (try dsimp only at hSw); go_simp; (try with_reducible rfl))
  try simp only [Act.put, List.setIfInBounds_toArray, List.set_cons_zero, List.set_cons_succ]
  refine wpAnyH_take (i := 12) (oi := { dst := some 18, op := Op.fieldAddr 50 (Operand.tmp 1) 3, type := 0, pos := "bytes.go:15", after := #[], guard := none }) (v := ?vv13) rfl (by kernel_rfl) (by kernel_rfl) (by kernel_rfl) (fun _ _ _ h => h) ?hy13 (by assumption) ?rest13
  case hy13 => (refine Or.inl ⟨by rfl, ?_⟩; intro W hSw; (try dsimp only at hSw); go_simp; (try with_reducible rfl))
  try simp only [Act.put, List.setIfInBounds_toArray, List.set_cons_zero, List.set_cons_succ]
  refine wpAnyH_take (i := 13) (oi := { dst := some 19, op := Op.fieldAddr 48 (Operand.tmp 18) 2, type := 0, pos := "bytes.go:15", after := #[{ on := 12, ground := Ground.data }], guard := none }) (v := ?vv14) rfl (by kernel_rfl) (by kernel_rfl) (by kernel_rfl) (fun _ _ _ h => h) ?hy14 (by assumption) ?rest14
  case hy14 => (refine Or.inl ⟨by rfl, ?_⟩; intro W hSw; (try dsimp only at hSw); go_simp; (try with_reducible rfl))
  try simp only [Act.put, List.setIfInBounds_toArray, List.set_cons_zero, List.set_cons_succ]
  refine wpAnyH_take (i := 14) (oi := { dst := some 20, op := Op.load 3 (Operand.tmp 19), type := 3, pos := "bytes.go:15", after := #[{ on := 13, ground := Ground.data }], guard := none }) (v := ?vv15) rfl (by kernel_rfl) (by kernel_rfl) (by kernel_rfl) (fun _ _ _ h => h) ?hy15 (by assumption) ?rest15
  case hy15 => (refine Or.inl ⟨by rfl, ?_⟩; intro W hSw; (try dsimp only at hSw); go_simp; (try with_reducible rfl))
  try simp only [Act.put, List.setIfInBounds_toArray, List.set_cons_zero, List.set_cons_succ]
  refine wpAnyH_take (i := 15) (oi := { dst := some 21, op := Op.fieldAddr 50 (Operand.tmp 1) 4, type := 0, pos := "bytes.go:15", after := #[], guard := none }) (v := ?vv16) rfl (by kernel_rfl) (by kernel_rfl) (by kernel_rfl) (fun _ _ _ h => h) ?hy16 (by assumption) ?rest16
  case hy16 => (refine Or.inl ⟨by rfl, ?_⟩; intro W hSw; (try dsimp only at hSw); go_simp; (try with_reducible rfl))
  try simp only [Act.put, List.setIfInBounds_toArray, List.set_cons_zero, List.set_cons_succ]
  refine wpAnyH_take (i := 16) (oi := { dst := some 22, op := Op.load 3 (Operand.tmp 21), type := 3, pos := "bytes.go:15", after := #[{ on := 15, ground := Ground.data }], guard := none }) (v := ?vv17) rfl (by kernel_rfl) (by kernel_rfl) (by kernel_rfl) (fun _ _ _ h => h) ?hy17 (by assumption) ?rest17
  case hy17 => (refine Or.inl ⟨by rfl, ?_⟩; intro W hSw; (try dsimp only at hSw); go_simp; (try with_reducible rfl))
  try simp only [Act.put, List.setIfInBounds_toArray, List.set_cons_zero, List.set_cons_succ]
  refine wpAnyH_take (i := 17) (oi := { dst := some 23, op := Op.fieldAddr 50 (Operand.tmp 1) 5, type := 0, pos := "bytes.go:15", after := #[], guard := none }) (v := ?vv18) rfl (by kernel_rfl) (by kernel_rfl) (by kernel_rfl) (fun _ _ _ h => h) ?hy18 (by assumption) ?rest18
  case hy18 => (refine Or.inl ⟨by rfl, ?_⟩; intro W hSw; (try dsimp only at hSw); go_simp; (try with_reducible rfl))
  try simp only [Act.put, List.setIfInBounds_toArray, List.set_cons_zero, List.set_cons_succ]
  refine wpAnyH_take (i := 18) (oi := { dst := some 24, op := Op.load 24 (Operand.tmp 23), type := 24, pos := "bytes.go:15", after := #[{ on := 17, ground := Ground.data }], guard := none }) (v := ?vv19) rfl (by kernel_rfl) (by kernel_rfl) (by kernel_rfl) (fun _ _ _ h => h) ?hy19 (by assumption) ?rest19
  case hy19 => (refine Or.inl ⟨by rfl, ?_⟩; intro W hSw; (try dsimp only at hSw); go_simp; (try with_reducible rfl))
  try simp only [Act.put, List.setIfInBounds_toArray, List.set_cons_zero, List.set_cons_succ]
  refine wpAnyH_take (i := 21) (oi := { dst := some 27, op := Op.fieldAddr 50 (Operand.tmp 1) 6, type := 0, pos := "bytes.go:15", after := #[], guard := none }) (v := ?vv20) rfl (by kernel_rfl) (by kernel_rfl) (by kernel_rfl) (fun _ _ _ h => h) ?hy20 (by assumption) ?rest20
  case hy20 => (refine Or.inl ⟨by rfl, ?_⟩; intro W hSw; (try dsimp only at hSw); go_simp; (try with_reducible rfl))
  try simp only [Act.put, List.setIfInBounds_toArray, List.set_cons_zero, List.set_cons_succ]
  refine wpAnyH_take (i := 22) (oi := { dst := some 28, op := Op.load 2 (Operand.tmp 27), type := 2, pos := "bytes.go:15", after := #[{ on := 21, ground := Ground.data }], guard := none }) (v := ?vv21) rfl (by kernel_rfl) (by kernel_rfl) (by kernel_rfl) (fun _ _ _ h => h) ?hy21 (by assumption) ?rest21
  case hy21 => (refine Or.inl ⟨by rfl, ?_⟩; intro W hSw; (try dsimp only at hSw); go_simp; (try with_reducible rfl))
  try simp only [Act.put, List.setIfInBounds_toArray, List.set_cons_zero, List.set_cons_succ]
  refine wpAnyH_take (i := 23) (oi := { dst := some 29, op := Op.convert 2 175 (Operand.tmp 28), type := 175, pos := "bytes.go:15", after := #[{ on := 22, ground := Ground.data }], guard := none }) (v := ?vv22) rfl (by kernel_rfl) (by kernel_rfl) (by kernel_rfl) (fun _ _ _ h => h) ?hy22 (by assumption) ?rest22
  case hy22 => (refine Or.inl ⟨by rfl, ?_⟩; intro W hSw; (try dsimp only at hSw); go_simp; (try with_reducible rfl))
  try simp only [Act.put, List.setIfInBounds_toArray, List.set_cons_zero, List.set_cons_succ]
  refine wpAnyH_take (i := 25) (oi := { dst := some 31, op := Op.fieldAddr 50 (Operand.tmp 1) 7, type := 0, pos := "bytes.go:15", after := #[], guard := none }) (v := ?vv23) rfl (by kernel_rfl) (by kernel_rfl) (by kernel_rfl) (fun _ _ _ h => h) ?hy23 (by assumption) ?rest23
  case hy23 => (refine Or.inl ⟨by rfl, ?_⟩; intro W hSw; (try dsimp only at hSw); go_simp; (try with_reducible rfl))
  try simp only [Act.put, List.setIfInBounds_toArray, List.set_cons_zero, List.set_cons_succ]
  refine wpAnyH_take (i := 26) (oi := { dst := some 32, op := Op.load 34 (Operand.tmp 31), type := 34, pos := "bytes.go:15", after := #[{ on := 25, ground := Ground.data }], guard := none }) (v := ?vv24) rfl (by kernel_rfl) (by kernel_rfl) (by kernel_rfl) (fun _ _ _ h => h) ?hy24 (by assumption) ?rest24
  case hy24 => (refine Or.inl ⟨by rfl, ?_⟩; intro W hSw; (try dsimp only at hSw); go_simp; (try with_reducible rfl))
  try simp only [Act.put, List.setIfInBounds_toArray, List.set_cons_zero, List.set_cons_succ]
  refine wpAnyH_take (i := 28) (oi := { dst := some 34, op := Op.fieldAddr 50 (Operand.tmp 1) 8, type := 0, pos := "bytes.go:15", after := #[], guard := none }) (v := ?vv25) rfl (by kernel_rfl) (by kernel_rfl) (by kernel_rfl) (fun _ _ _ h => h) ?hy25 (by assumption) ?rest25
  case hy25 => (refine Or.inl ⟨by rfl, ?_⟩; intro W hSw; (try dsimp only at hSw); go_simp; (try with_reducible rfl))
  try simp only [Act.put, List.setIfInBounds_toArray, List.set_cons_zero, List.set_cons_succ]
  refine wpAnyH_take (i := 29) (oi := { dst := some 35, op := Op.load 35 (Operand.tmp 34), type := 35, pos := "bytes.go:15", after := #[{ on := 28, ground := Ground.data }], guard := none }) (v := ?vv26) rfl (by kernel_rfl) (by kernel_rfl) (by kernel_rfl) (fun _ _ _ h => h) ?hy26 (by assumption) ?rest26
  case hy26 => (refine Or.inl ⟨by rfl, ?_⟩; intro W hSw; (try dsimp only at hSw); go_simp; (try with_reducible rfl))
  try simp only [Act.put, List.setIfInBounds_toArray, List.set_cons_zero, List.set_cons_succ]
  refine wpAnyH_ready (rs := [19]) (by kernel_rfl) (by simp) ?_
  have hn1 := nums_new w1.drew [kd, fr, tt, g, nd, tr, lw, co] 8 rfl (by omega) _ (by simp; rfl) 3
  have HB2 := Lib.hid (below_of_drew (below_new (w := w1.drew) (.cells #[.int .i64 kd, .int .i64 fr, .int .i64 tt, .int .i64 g, .int .i64 nd, .int .i64 tr, .int .i64 lw, .int .i64 co] 3)))
  have HN1 := Lib.hid (HNS.out _ _ hn1)
  clear hn1
  refine AllReadyH.cons (o := { dst := some 25, op := Op.buildSlice 64 8 #[(0, Operand.tmp 7), (1, Operand.tmp 9), (2, Operand.tmp 11), (3, Operand.tmp 14), (4, Operand.tmp 17), (5, Operand.tmp 20), (6, Operand.tmp 22), (7, Operand.tmp 24)], type := 64, pos := "bytes.go:15", after := #[{ on := 1, ground := Ground.data }, { on := 3, ground := Ground.data }, { on := 5, ground := Ground.data }, { on := 8, ground := Ground.data }, { on := 11, ground := Ground.data }, { on := 14, ground := Ground.data }, { on := 16, ground := Ground.data }, { on := 18, ground := Ground.data }], guard := none }) rfl (fun K hK => ?step27) ?more27
  case more27 => exact AllReadyH.nil
  ((go_simp))
  refine hK.out _ _ ?hS27 (fun hHeld => ?rr27)
  case hS27 => (exact HBX.out _ HB2.out)
  clear hK K
  try simp only [Act.put, List.setIfInBounds_toArray, List.set_cons_zero, List.set_cons_succ]
  refine wpAnyH_ready (rs := [20]) (by kernel_rfl) (by simp) ?_
  refine AllReadyH.cons (o := { dst := some 26, op := Op.call { callee := Callee.value (Operand.func 143), args := #[Operand.tmp 25], argTypes := #[64] }, type := 54, pos := "bytes.go:16", after := #[{ on := 19, ground := Ground.data }], guard := none }) rfl (fun K hK => ?step28) ?more28
  case more28 => exact AllReadyH.nil
  ((go_simp; go_at_call 143; refine (HN1.out).mono ?_; rintro e w3 ⟨v3, rfl, ho3, hb3⟩; have HO3 := Lib.hid ho3; have HB3 := Lib.hid (HB2.out.trans (hb3.mono HB2.out.size)); obtain ⟨A3, c3, rfl⟩ := ho3.len; clear ho3 hb3; go_wp2_with fail))
  refine hK.out _ _ ?hS28 (fun hHeld => ?rr28)
  case hS28 => (exact HBX.out _ HB3.out)
  clear hK K
  try simp only [Act.put, List.setIfInBounds_toArray, List.set_cons_zero, List.set_cons_succ]
  refine wpAnyH_ready (rs := [24]) (by kernel_rfl) (by simp) ?_
  refine AllReadyH.cons (o := { dst := some 30, op := Op.call { callee := Callee.value (Operand.func 144), args := #[Operand.tmp 29], argTypes := #[175] }, type := 54, pos := "bytes.go:16", after := #[{ on := 23, ground := Ground.data }, { on := 20, ground := Ground.chain }], guard := none }) rfl (fun K hK => ?step29) ?more29
  case more29 => exact AllReadyH.nil
  ((go_simp; go_at_call 144; refine (HNT.out _).mono ?_; rintro e w4 ⟨v4, rfl, ho4, hb4⟩; have HO4 := Lib.hid ho4; have HO34 := Lib.hid (HO3.out.below hb4); have HB4 := Lib.hid (HB3.out.trans (hb4.mono HB3.out.size)); obtain ⟨A4, c4, rfl⟩ := ho4.len; clear ho4 hb4; go_wp2_with fail))
  refine hK.out _ _ ?hS29 (fun hHeld => ?rr29)
  case hS29 => (exact HBX.out _ HB4.out)
  clear hK K
  try simp only [Act.put, List.setIfInBounds_toArray, List.set_cons_zero, List.set_cons_succ]
  refine wpAnyH_ready (rs := [27]) (by kernel_rfl) (by simp) ?_
  refine AllReadyH.cons (o := { dst := some 33, op := Op.call { callee := Callee.value (Operand.func 145), args := #[Operand.tmp 32], argTypes := #[34] }, type := 54, pos := "bytes.go:17", after := #[{ on := 26, ground := Ground.data }, { on := 24, ground := Ground.chain }], guard := none }) rfl (fun K hK => ?step30) ?more30
  case more30 => exact AllReadyH.nil
  ((go_simp; go_at_call 145; refine (HNU.out _ (HB1.out.trans (HB4.out.mono HB1.out.size))).mono ?_; rintro e w5 ⟨v5, rfl, ho5, hb5⟩; have HO5 := Lib.hid ho5; have HO35 := Lib.hid (HO34.out.below hb5); have HO45 := Lib.hid (HO4.out.below hb5); have HB5 := Lib.hid (HB4.out.trans (hb5.mono HB4.out.size)); obtain ⟨A5, c5, rfl⟩ := ho5.len; clear ho5 hb5; go_wp2_with fail))
  refine hK.out _ _ ?hS30 (fun hHeld => ?rr30)
  case hS30 => (exact HBX.out _ HB5.out)
  clear hK K
  try simp only [Act.put, List.setIfInBounds_toArray, List.set_cons_zero, List.set_cons_succ]
  refine wpAnyH_ready (rs := [30]) (by kernel_rfl) (by simp) ?_
  refine AllReadyH.cons (o := { dst := some 36, op := Op.call { callee := Callee.value (Operand.func 147), args := #[Operand.tmp 35], argTypes := #[35] }, type := 54, pos := "bytes.go:17", after := #[{ on := 29, ground := Ground.data }, { on := 27, ground := Ground.chain }], guard := none }) rfl (fun K hK => ?step31) ?more31
  case more31 => exact AllReadyH.nil
  ((go_simp; go_at_call 147; refine (HOE.out _ (HB1.out.trans (HB5.out.mono HB1.out.size))).mono ?_; rintro e w6 ⟨v6, rfl, ho6, hb6⟩; have HCV := Lib.hid (bis_string ho6.bis); have HO36 := Lib.hid (HO35.out.below hb6); have HO46 := Lib.hid (HO45.out.below hb6); have HO56 := Lib.hid (HO5.out.below hb6); have HB6 := Lib.hid (HB5.out.trans (hb6.mono HB5.out.size)); obtain ⟨A6, c6, rfl⟩ := ho6.len; clear ho6 hb6; go_wp2_with fail))
  refine hK.out _ _ ?hS31 (fun hHeld => ?rr31)
  case hS31 => (exact HBX.out _ HB6.out)
  clear hK K
  try simp only [Act.put, List.setIfInBounds_toArray, List.set_cons_zero, List.set_cons_succ]
  have hcv := HCV.out
  refine wpAnyH_ready (rs := [31]) (by kernel_rfl) (by simp) ?_
  refine AllReadyH.cons (o := { dst := some 37, op := Op.convert 54 9 (Operand.tmp 36), type := 9, pos := "bytes.go:15", after := #[{ on := 30, ground := Ground.data }], guard := none }) rfl (fun K hK => ?step32) ?more32
  case more32 => exact AllReadyH.nil
  ((go_simp))
  refine hK.out _ _ ?hS32 (fun hHeld => ?rr32)
  case hS32 => (exact HBX.out _ HB6.out)
  clear hK K
  try simp only [Act.put, List.setIfInBounds_toArray, List.set_cons_zero, List.set_cons_succ]
  clear hcv
  refine wpAnyH_ready (rs := [32]) (by kernel_rfl) (by simp) ?_
  refine AllReadyH.cons (o := { dst := some 38, op := Op.call { callee := Callee.value (Operand.func 146), args := #[Operand.tmp 37], argTypes := #[9] }, type := 54, pos := "bytes.go:17", after := #[{ on := 31, ground := Ground.data }, { on := 30, ground := Ground.chain }], guard := none }) rfl (fun K hK => ?step33) ?more33
  case more33 => exact AllReadyH.nil
  ((go_simp; go_at_call 146; refine (HST.out _).mono ?_; rintro e w7 ⟨v7, rfl, ho7, hb7⟩; have HO7 := Lib.hid ho7; have HO37 := Lib.hid (HO36.out.below hb7); have HO47 := Lib.hid (HO46.out.below hb7); have HO57 := Lib.hid (HO56.out.below hb7); have HB7 := Lib.hid (HB6.out.trans (hb7.mono HB6.out.size)); obtain ⟨A7, c7, rfl⟩ := ho7.len; clear ho7 hb7; go_wp2_with fail))
  refine hK.out _ _ ?hS33 (fun hHeld => ?rr33)
  case hS33 => (exact HBX.out _ HB7.out)
  clear hK K
  try simp only [Act.put, List.setIfInBounds_toArray, List.set_cons_zero, List.set_cons_succ]
  obtain ⟨B3, hB3⟩ : ∃ B, B = natsB [kd, fr, tt, g, nd, tr, lw, co] := ⟨_, rfl⟩
  obtain ⟨B5, hB5⟩ : ∃ B, B = numsB tl := ⟨_, rfl⟩
  obtain ⟨B7, hB7⟩ : ∃ B, B = strB ⟨(opsB os).toArray⟩ := ⟨_, rfl⟩
  rw [← hB3, ← hB5, ← hB7] at HBD
  rw [← hB3] at HO37 ⊢
  rw [← hB5] at HO57 ⊢
  rw [← hB7] at HO7 ⊢
  have hpt := new_parts w7 [.slice A3 B3.length c3, .slice A4 (natB tn).length c4, .slice A5 B5.length c5, .slice A7 B7.length c7] [B3, natB tn, B5, B7] rfl (by simp) (fun x y z h1 h2 => by
    match x, h1, h2 with
    | 0, h1, h2 => cases h1; cases h2; exact HO37.out.bis
    | 1, h1, h2 => cases h1; cases h2; exact HO47.out.bis
    | 2, h1, h2 => cases h1; cases h2; exact HO57.out.bis
    | 3, h1, h2 => cases h1; cases h2; exact HO7.out.bis)
  have HB8 := Lib.hid (HB7.out.trans ((below_new (w := w7) (.cells #[.slice A3 B3.length c3, .slice A4 (natB tn).length c4, .slice A5 B5.length c5, .slice A7 B7.length c7] 54)).mono HB7.out.size))
  have HWR := Lib.hid (wrap_any (HMV.out _ (HB1.out.trans (HB8.out.mono HB1.out.size))) hpt (by rw [HBD.out.1]; have := HBD.out.2; omega))
  rw [HBD.out.1] at HWR
  clear hpt hB3 hB5 hB7
  refine wpAnyH_ready (rs := [33]) (by kernel_rfl) (by simp) ?_
  refine AllReadyH.cons (o := { dst := some 39, op := Op.buildSlice 239 4 #[(0, Operand.tmp 26), (1, Operand.tmp 30), (2, Operand.tmp 33), (3, Operand.tmp 38)], type := 239, pos := "bytes.go:15", after := #[{ on := 20, ground := Ground.data }, { on := 24, ground := Ground.data }, { on := 27, ground := Ground.data }, { on := 32, ground := Ground.data }], guard := none }) rfl (fun K hK => ?step34) ?more34
  case more34 => exact AllReadyH.nil
  ((go_simp))
  refine hK.out _ _ ?hS34 (fun hHeld => ?rr34)
  case hS34 => (exact HBX.out _ HB8.out)
  clear hK K
  try simp only [Act.put, List.setIfInBounds_toArray, List.set_cons_zero, List.set_cons_succ]
  refine wpAnyH_ready (rs := [34]) (by kernel_rfl) (by simp) ?_
  refine AllReadyH.cons (o := { dst := some 40, op := Op.call { callee := Callee.value (Operand.func 142), args := #[Operand.tmp 39], argTypes := #[239] }, type := 54, pos := "bytes.go:15", after := #[{ on := 33, ground := Ground.data }, { on := 32, ground := Ground.chain }], guard := none }) rfl (fun K hK => ?step35) ?more35
  case more35 => exact AllReadyH.nil
  ((go_simp; go_at_call 142; refine (HWR.out).mono ?_; rintro e w9 ⟨v9, rfl, _, ho9, hb9⟩; have HO9 := Lib.hid (ho9 (by have := HBD.out.2; omega)); have HB9 := Lib.hid (HB8.out.trans (hb9.mono HB8.out.size)); obtain ⟨A9, c9, rfl⟩ := HO9.out.len; clear ho9 hb9; go_wp2_with fail))
  refine hK.out _ _ ?hS35 (fun hHeld => ?rr35)
  case hS35 => (exact HBX.out _ HB9.out)
  clear hK K
  try simp only [Act.put, List.setIfInBounds_toArray, List.set_cons_zero, List.set_cons_succ]
  refine wpAnyH_take (i := 35) (oi := { dst := some 2, op := Op.assign (Operand.tmp 40), type := 54, pos := "bytes.go:15", after := #[{ on := 34, ground := Ground.data }, { on := 34, ground := Ground.chain }, { on := 0, ground := Ground.phase }, { on := 1, ground := Ground.phase }, { on := 2, ground := Ground.phase }, { on := 3, ground := Ground.phase }, { on := 4, ground := Ground.phase }, { on := 5, ground := Ground.phase }, { on := 6, ground := Ground.phase }, { on := 7, ground := Ground.phase }, { on := 8, ground := Ground.phase }, { on := 9, ground := Ground.phase }, { on := 10, ground := Ground.phase }, { on := 11, ground := Ground.phase }, { on := 12, ground := Ground.phase }, { on := 13, ground := Ground.phase }, { on := 14, ground := Ground.phase }, { on := 15, ground := Ground.phase }, { on := 16, ground := Ground.phase }, { on := 17, ground := Ground.phase }, { on := 18, ground := Ground.phase }, { on := 19, ground := Ground.phase }, { on := 20, ground := Ground.phase }, { on := 21, ground := Ground.phase }, { on := 22, ground := Ground.phase }, { on := 23, ground := Ground.phase }, { on := 24, ground := Ground.phase }, { on := 25, ground := Ground.phase }, { on := 26, ground := Ground.phase }, { on := 27, ground := Ground.phase }, { on := 28, ground := Ground.phase }, { on := 29, ground := Ground.phase }, { on := 30, ground := Ground.phase }, { on := 31, ground := Ground.phase }, { on := 32, ground := Ground.phase }, { on := 33, ground := Ground.phase }, { on := 34, ground := Ground.phase }], guard := none }) (v := ?vv36) rfl (by kernel_rfl) (by kernel_rfl) (by kernel_rfl) (fun _ _ _ h => h) ?hy36 (by assumption) ?rest36
  case hy36 => (refine Or.inl ⟨by rfl, ?_⟩; intro W hSw; (try dsimp only at hSw); go_simp; (try with_reducible rfl))
  try simp only [Act.put, List.setIfInBounds_toArray, List.set_cons_zero, List.set_cons_succ]
  refine wpAnyH_done (by kernel_rfl) ?_ _
  clear hHeld
  dsimp only [onlyN]
  go_wp2_with fail
  go_ret
  exact ⟨_, rfl, HO9.out.lower (Nat.le_trans HB1.out.size HB8.out.size), HB1.out.trans (HB9.out.mono HB1.out.size)⟩
end Go.Proofs.YtfddlhcdlgdofaaGreatDoor
