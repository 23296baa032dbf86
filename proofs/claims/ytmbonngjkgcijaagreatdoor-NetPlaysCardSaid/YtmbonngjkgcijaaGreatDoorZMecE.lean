/- mess.Encode. slices.Equal of numbers and of operations (genmefa.py wrote it.) mess.Answer and Same (genmefc.py wrote it.) mess.small, told; the reader beside a row of one's own. -/
import Derived.Test.YtmbonngjkgcijaaGreatDoorZMecD
import Derived.Test.YtmbonngjkgcijaaGreatDoorZMeaQ
set_option linter.unusedSimpArgs false
set_option linter.unusedVariables false
set_option linter.unnecessarySimpa false
namespace Go.Proofs.YtmbonngjkgcijaaGreatDoor
open Go.RowKit Go.Shelf

/-- The cells of a message's box. -/
def BoxM (g : Nat) (m : MsgV) (tA : Option Addr) (tc : Nat) (oA : Option Addr) (oc : Nat) (W : World) : Prop :=
  W.cell? ⟨g, 0, none⟩ = some (.int .i64 m.kd) ∧ W.cell? ⟨g, 1, none⟩ = some (.int .i64 m.fr) ∧ W.cell? ⟨g, 2, none⟩ = some (.int .i64 m.tt) ∧ W.cell? ⟨g, 3, none⟩ = some (.int .i64 m.g) ∧ W.cell? ⟨g, 4, none⟩ = some (.int .i64 m.nd) ∧ W.cell? ⟨g, 5, none⟩ = some (.int .i64 m.tr) ∧
  W.cell? ⟨g, 6, none⟩ = some (.int .i64 m.lw) ∧ W.cell? ⟨g, 7, none⟩ = some (.int .i64 m.co) ∧ W.cell? ⟨g, 8, none⟩ = some (.int .i64 m.ti) ∧ W.cell? ⟨g, 9, none⟩ = some (.slice tA m.tl.length tc) ∧ W.cell? ⟨g, 10, none⟩ = some (.slice oA m.os.length oc)
def msgCells (m : MsgV) (tA : Option Addr) (tc : Nat) (oA : Option Addr) (oc : Nat) : Array Value := #[.int .i64 m.kd, .int .i64 m.fr, .int .i64 m.tt, .int .i64 m.g, .int .i64 m.nd, .int .i64 m.tr, .int .i64 m.lw, .int .i64 m.co, .int .i64 m.ti, .slice tA m.tl.length tc, .slice oA m.os.length oc]
theorem boxM_of {W W' : World} {g : Nat} {m : MsgV} {tA : Option Addr} {tc : Nat} {oA : Option Addr} {oc : Nat} {T : TypeId} (hat : W.heap[g]? = some (.cells (msgCells m tA tc oA oc) T (0, 0))) (hb : Below W.heap.size W W') : BoxM g m tA tc oA oc W' := by
  have hg := heap_lt hat
  have key : ∀ i, W'.cell? ⟨g, i, none⟩ = (msgCells m tA tc oA oc)[i]? := fun i => (hb.cell (p := ⟨g, i, none⟩) hg).trans (cell_of hat i)
  exact ⟨key 0, key 1, key 2, key 3, key 4, key 5, key 6, key 7, key 8, key 9, key 10⟩
theorem mayM_ok {m : MsgV} (h : mayM m = true) (hi : MsgIn m) : OpsOk m.os := fun o ho => by
  have F := mayM_fits h
  have h1 := F.may o ho
  have := mayO_key h1
  have := mayO_kind h1
  exact ⟨by omega, by omega, hi.ops o ho⟩
set_option maxRecDepth 100000 in
set_option maxHeartbeats 4000000 in
theorem Encode_not {w : World} {v : Value} {m : MsgV} (hG : Glob w) (h : MsgIs w v m) (hm : mayM m = false) :
    Calls Tryz.prog 99 #[v] w fun e w' => e = .returned (.slice none 0 0) ∧ Below w.heap.size w w' := by
  have HMY := Lib.hid (fun W (hW : Below w.heap.size w W) => May_any (hG.below hW) (h.below hW))
  rw [hm] at HMY
  obtain ⟨tA, tc, oA, oc, rfl, _⟩ := h
  have HB := Lib.hid (below_new (w := w) (.cells (msgCells m tA tc oA oc) 50))
  unfold msgCells at HB
  clear hG hm
  obtain ⟨kd, fr, tt, g, nd, tr, lw, co, ti, tl, os⟩ := m
  simp only at HMY HB ⊢
  go_enter Tryz.func99, Tryz.ntmps99
  go_wp2_with fail
  refine (HMY.out _ HB.out).mono ?_
  rintro e w1 ⟨rfl, hb1⟩
  have HB1 := Lib.hid (HB.out.trans (hb1.mono HB.out.size))
  clear hb1
  go_wp2_with fail
  go_ret
  exact ⟨rfl, HB1.out⟩
set_option maxRecDepth 100000 in
set_option maxHeartbeats 8000000 in
theorem Encode_yes {w : World} {v : Value} {m : MsgV} (hG : Glob w) (hMv : Mov w) (h : MsgIs w v m) (hm : mayM m = true) (hi : MsgIn m) :
    Calls Tryz.prog 99 #[v] w fun e w' => ∃ v', e = .returned v' ∧ OwnBy w' w.heap.size v' (encM m) ∧ Below w.heap.size w w' := by
  have HMY := Lib.hid (fun W (hW : Below w.heap.size w W) => May_any (hG.below hW) (h.below hW))
  rw [hm] at HMY
  have F := mayM_fits hm
  have HOK := mayM_ok hm hi
  have hlen := bodyM_le hm hi
  obtain ⟨tA, tc, oA, oc, rfl, ht, ho, hk⟩ := h
  obtain ⟨k0, k1, k2, k3, k4, k5, k6, k7, k8, k9, k10, k11⟩ := F
  have hob := opsB_le k10 (fun o h => ⟨k11 o h, hi.ops o h⟩)
  have hW0 := below_new (w := w) (.cells (msgCells m tA tc oA oc) 50)
  have hat := alloc_at w (.cells (msgCells m tA tc oA oc) 50)
  have HB0 := Lib.hid hW0
  have HSW := Lib.hid (fun W (hW : Below (w.alloc (.cells (msgCells m tA tc oA oc) 50)).heap.size (w.alloc (.cells (msgCells m tA tc oA oc) 50)) W) => boxM_of hat hW)
  unfold msgCells BoxM at HSW
  unfold msgCells at HB0
  obtain ⟨kd, fr, tt, g, nd, tr, lw, co, ti, tl, os⟩ := m
  simp only at k0 k1 k2 k3 k4 k5 k6 k7 k8 k9 k10 k11 ht ho hk HMY HSW HB0 hob HOK ⊢
  obtain ⟨tn, rfl⟩ : ∃ n : Nat, ti = n := ⟨ti.toNat, by omega⟩
  have HNS := Lib.hid (fun W v (h : NumsAt W v [kd, fr, tt, g, nd, tr, lw, co]) => nats_any h (fun x hx => by simp only [List.mem_cons, List.not_mem_nil, or_false] at hx; omega) (by simp))
  have HNT := Lib.hid (fun W => onat_any tn (by omega) W)
  have HNU := Lib.hid (fun W (hW : Below w.heap.size w W) => nums_any (ht.below hW) hi.told (by omega))
  have HOE := Lib.hid (fun W (hW : Below w.heap.size w W) => opsenc_any (ho.below hW) HOK (by omega))
  have HST := Lib.hid (fun W => ostr_any ⟨(opsB os).toArray⟩ (by rw [size_mk]; omega) W)
  have HMV := Lib.hid (fun W (hW : Below w.heap.size w W) => hMv.below hW)
  have HBD : Hid ([natsB [kd, fr, tt, g, nd, tr, lw, co], natB tn, numsB tl, strB ⟨(opsB os).toArray⟩].flatten = bodyM ⟨kd, fr, tt, g, nd, tr, lw, co, tn, tl, os⟩ ∧ (bodyM ⟨kd, fr, tt, g, nd, tr, lw, co, tn, tl, os⟩).length ≤ 1000) := Lib.hid (by
    refine ⟨?_, hlen⟩
    unfold bodyM
    simp)
  have htw : IntKind.u64.wrap (tn : Int) = (tn : Int) := by rw [IntKind.wrap_u64]; omega
  clear hG hMv hm hi ht ho hk hlen hob HOK k0 k1 k2 k3 k4 k5 k6 k7 k8 k9 k10 k11 hW0 hat
  go_enter Tryz.func99, Tryz.ntmps99
  go_wp2_with fail
  refine (HMY.out _ HB0.out).mono ?_
  rintro e w1 ⟨rfl, hb1⟩
  have HB1 := Lib.hid (HB0.out.trans (hb1.mono HB0.out.size))
  have HBX := Lib.hid (fun W (hW : Below w1.heap.size w1 W) => HSW.out W (hb1.trans (hW.mono hb1.size)))
  clear hb1 HMY
  go_wp2_with fail
  refine wp_only ?_
  refine wp_region_held_drew (S := fun W => W.cell? ⟨w.heap.size, 0, none⟩ = some (.int .i64 kd) ∧ W.cell? ⟨w.heap.size, 1, none⟩ = some (.int .i64 fr) ∧ W.cell? ⟨w.heap.size, 2, none⟩ = some (.int .i64 tt) ∧ W.cell? ⟨w.heap.size, 3, none⟩ = some (.int .i64 g) ∧ W.cell? ⟨w.heap.size, 4, none⟩ = some (.int .i64 nd) ∧ W.cell? ⟨w.heap.size, 5, none⟩ = some (.int .i64 tr) ∧ W.cell? ⟨w.heap.size, 6, none⟩ = some (.int .i64 lw) ∧ W.cell? ⟨w.heap.size, 7, none⟩ = some (.int .i64 co) ∧ W.cell? ⟨w.heap.size, 8, none⟩ = some (.int .i64 (tn : Int)) ∧ W.cell? ⟨w.heap.size, 9, none⟩ = some (.slice tA tl.length tc) ∧ W.cell? ⟨w.heap.size, 10, none⟩ = some (.slice oA os.length oc)) (by kernel_rfl) (HBX.out _ (below_drew (Below.refl _ _))) (fun hHeld => ?_)
  refine tkH (i := 0) (oi := { dst := some 6, op := .fieldAddr 50 (.tmp 1) 0, type := 0, pos := "bytes.go:15", after := #[], guard := none }) (v := ?vv1) ?hy1 ?rest1
  case hy1 => (refine Or.inl ⟨by rfl, ?_⟩; intro W hSw; (try dsimp only at hSw); go_simp; (try with_reducible rfl))
  try simp only [Act.put, pzz]
  refine tkH (i := 1) (oi := { dst := some 7, op := .load 3 (.tmp 6), type := 3, pos := "bytes.go:15", after := #[⟨0, .data⟩], guard := none }) (v := ?vv2) ?hy2 ?rest2
  case hy2 => (refine Or.inl ⟨by rfl, ?_⟩; intro W hSw; (try dsimp only at hSw); go_simp; (try with_reducible rfl))
  try simp only [Act.put, pzz]
  refine tkH (i := 2) (oi := { dst := some 8, op := .fieldAddr 50 (.tmp 1) 1, type := 0, pos := "bytes.go:15", after := #[], guard := none }) (v := ?vv3) ?hy3 ?rest3
  case hy3 => (refine Or.inl ⟨by rfl, ?_⟩; intro W hSw; (try dsimp only at hSw); go_simp; (try with_reducible rfl))
  try simp only [Act.put, pzz]
  refine tkH (i := 3) (oi := { dst := some 9, op := .load 3 (.tmp 8), type := 3, pos := "bytes.go:15", after := #[⟨2, .data⟩], guard := none }) (v := ?vv4) ?hy4 ?rest4
  case hy4 => (refine Or.inl ⟨by rfl, ?_⟩; intro W hSw; (try dsimp only at hSw); go_simp; (try with_reducible rfl))
  try simp only [Act.put, pzz]
  refine tkH (i := 4) (oi := { dst := some 10, op := .fieldAddr 50 (.tmp 1) 2, type := 0, pos := "bytes.go:15", after := #[], guard := none }) (v := ?vv5) ?hy5 ?rest5
  case hy5 => (refine Or.inl ⟨by rfl, ?_⟩; intro W hSw; (try dsimp only at hSw); go_simp; (try with_reducible rfl))
  try simp only [Act.put, pzz]
  refine tkH (i := 5) (oi := { dst := some 11, op := .load 3 (.tmp 10), type := 3, pos := "bytes.go:15", after := #[⟨4, .data⟩], guard := none }) (v := ?vv6) ?hy6 ?rest6
  case hy6 => (refine Or.inl ⟨by rfl, ?_⟩; intro W hSw; (try dsimp only at hSw); go_simp; (try with_reducible rfl))
  try simp only [Act.put, pzz]
  refine tkH (i := 6) (oi := { dst := some 12, op := .fieldAddr 50 (.tmp 1) 3, type := 0, pos := "bytes.go:15", after := #[], guard := none }) (v := ?vv7) ?hy7 ?rest7
  case hy7 => (refine Or.inl ⟨by rfl, ?_⟩; intro W hSw; (try dsimp only at hSw); go_simp; (try with_reducible rfl))
  try simp only [Act.put, pzz]
  refine tkH (i := 7) (oi := { dst := some 13, op := .fieldAddr 48 (.tmp 12) 0, type := 0, pos := "bytes.go:15", after := #[⟨6, .data⟩], guard := none }) (v := ?vv8) ?hy8 ?rest8
  case hy8 => (refine Or.inl ⟨by rfl, ?_⟩; intro W hSw; (try dsimp only at hSw); go_simp; (try with_reducible rfl))
  try simp only [Act.put, pzz]
  refine tkH (i := 8) (oi := { dst := some 14, op := .load 3 (.tmp 13), type := 3, pos := "bytes.go:15", after := #[⟨7, .data⟩], guard := none }) (v := ?vv9) ?hy9 ?rest9
  case hy9 => (refine Or.inl ⟨by rfl, ?_⟩; intro W hSw; (try dsimp only at hSw); go_simp; (try with_reducible rfl))
  try simp only [Act.put, pzz]
  refine tkH (i := 9) (oi := { dst := some 15, op := .fieldAddr 50 (.tmp 1) 3, type := 0, pos := "bytes.go:15", after := #[], guard := none }) (v := ?vv10) ?hy10 ?rest10
  case hy10 => (refine Or.inl ⟨by rfl, ?_⟩; intro W hSw; (try dsimp only at hSw); go_simp; (try with_reducible rfl))
  try simp only [Act.put, pzz]
  refine tkH (i := 10) (oi := { dst := some 16, op := .fieldAddr 48 (.tmp 15) 1, type := 0, pos := "bytes.go:15", after := #[⟨9, .data⟩], guard := none }) (v := ?vv11) ?hy11 ?rest11
  case hy11 => (refine Or.inl ⟨by rfl, ?_⟩; intro W hSw; (try dsimp only at hSw); go_simp; (try with_reducible rfl))
  try simp only [Act.put, pzz]
  refine tkH (i := 11) (oi := { dst := some 17, op := .load 3 (.tmp 16), type := 3, pos := "bytes.go:15", after := #[⟨10, .data⟩], guard := none }) (v := ?vv12) ?hy12 ?rest12
  case hy12 => (refine Or.inl ⟨by rfl, ?_⟩; intro W hSw; (try dsimp only at hSw); go_simp; (try with_reducible rfl))
  try simp only [Act.put, pzz]
  refine tkH (i := 12) (oi := { dst := some 18, op := .fieldAddr 50 (.tmp 1) 3, type := 0, pos := "bytes.go:15", after := #[], guard := none }) (v := ?vv13) ?hy13 ?rest13
  case hy13 => (refine Or.inl ⟨by rfl, ?_⟩; intro W hSw; (try dsimp only at hSw); go_simp; (try with_reducible rfl))
  try simp only [Act.put, pzz]
  refine tkH (i := 13) (oi := { dst := some 19, op := .fieldAddr 48 (.tmp 18) 2, type := 0, pos := "bytes.go:15", after := #[⟨12, .data⟩], guard := none }) (v := ?vv14) ?hy14 ?rest14
  case hy14 => (refine Or.inl ⟨by rfl, ?_⟩; intro W hSw; (try dsimp only at hSw); go_simp; (try with_reducible rfl))
  try simp only [Act.put, pzz]
  refine tkH (i := 14) (oi := { dst := some 20, op := .load 3 (.tmp 19), type := 3, pos := "bytes.go:15", after := #[⟨13, .data⟩], guard := none }) (v := ?vv15) ?hy15 ?rest15
  case hy15 => (refine Or.inl ⟨by rfl, ?_⟩; intro W hSw; (try dsimp only at hSw); go_simp; (try with_reducible rfl))
  try simp only [Act.put, pzz]
  refine tkH (i := 15) (oi := { dst := some 21, op := .fieldAddr 50 (.tmp 1) 4, type := 0, pos := "bytes.go:15", after := #[], guard := none }) (v := ?vv16) ?hy16 ?rest16
  case hy16 => (refine Or.inl ⟨by rfl, ?_⟩; intro W hSw; (try dsimp only at hSw); go_simp; (try with_reducible rfl))
  try simp only [Act.put, pzz]
  refine tkH (i := 16) (oi := { dst := some 22, op := .load 3 (.tmp 21), type := 3, pos := "bytes.go:15", after := #[⟨15, .data⟩], guard := none }) (v := ?vv17) ?hy17 ?rest17
  case hy17 => (refine Or.inl ⟨by rfl, ?_⟩; intro W hSw; (try dsimp only at hSw); go_simp; (try with_reducible rfl))
  try simp only [Act.put, pzz]
  refine tkH (i := 17) (oi := { dst := some 23, op := .fieldAddr 50 (.tmp 1) 5, type := 0, pos := "bytes.go:15", after := #[], guard := none }) (v := ?vv18) ?hy18 ?rest18
  case hy18 => (refine Or.inl ⟨by rfl, ?_⟩; intro W hSw; (try dsimp only at hSw); go_simp; (try with_reducible rfl))
  try simp only [Act.put, pzz]
  refine tkH (i := 18) (oi := { dst := some 24, op := .load 24 (.tmp 23), type := 24, pos := "bytes.go:15", after := #[⟨17, .data⟩], guard := none }) (v := ?vv19) ?hy19 ?rest19
  case hy19 => (refine Or.inl ⟨by rfl, ?_⟩; intro W hSw; (try dsimp only at hSw); go_simp; (try with_reducible rfl))
  try simp only [Act.put, pzz]
  refine tkH (i := 21) (oi := { dst := some 27, op := .fieldAddr 50 (.tmp 1) 6, type := 0, pos := "bytes.go:15", after := #[], guard := none }) (v := ?vv20) ?hy20 ?rest20
  case hy20 => (refine Or.inl ⟨by rfl, ?_⟩; intro W hSw; (try dsimp only at hSw); go_simp; (try with_reducible rfl))
  try simp only [Act.put, pzz]
  refine tkH (i := 22) (oi := { dst := some 28, op := .load 2 (.tmp 27), type := 2, pos := "bytes.go:15", after := #[⟨21, .data⟩], guard := none }) (v := ?vv21) ?hy21 ?rest21
  case hy21 => (refine Or.inl ⟨by rfl, ?_⟩; intro W hSw; (try dsimp only at hSw); go_simp; (try with_reducible rfl))
  try simp only [Act.put, pzz]
  refine tkH (i := 23) (oi := { dst := some 29, op := .convert 2 175 (.tmp 28), type := 175, pos := "bytes.go:15", after := #[⟨22, .data⟩], guard := none }) (v := ?vv22) ?hy22 ?rest22
  case hy22 => (refine Or.inl ⟨by rfl, ?_⟩; intro W hSw; (try dsimp only at hSw); go_simp; (try with_reducible rfl))
  try simp only [Act.put, pzz]
  refine tkH (i := 25) (oi := { dst := some 31, op := .fieldAddr 50 (.tmp 1) 7, type := 0, pos := "bytes.go:15", after := #[], guard := none }) (v := ?vv23) ?hy23 ?rest23
  case hy23 => (refine Or.inl ⟨by rfl, ?_⟩; intro W hSw; (try dsimp only at hSw); go_simp; (try with_reducible rfl))
  try simp only [Act.put, pzz]
  refine tkH (i := 26) (oi := { dst := some 32, op := .load 34 (.tmp 31), type := 34, pos := "bytes.go:15", after := #[⟨25, .data⟩], guard := none }) (v := ?vv24) ?hy24 ?rest24
  case hy24 => (refine Or.inl ⟨by rfl, ?_⟩; intro W hSw; (try dsimp only at hSw); go_simp; (try with_reducible rfl))
  try simp only [Act.put, pzz]
  refine tkH (i := 28) (oi := { dst := some 34, op := .fieldAddr 50 (.tmp 1) 8, type := 0, pos := "bytes.go:15", after := #[], guard := none }) (v := ?vv25) ?hy25 ?rest25
  case hy25 => (refine Or.inl ⟨by rfl, ?_⟩; intro W hSw; (try dsimp only at hSw); go_simp; (try with_reducible rfl))
  try simp only [Act.put, pzz]
  refine tkH (i := 29) (oi := { dst := some 35, op := .load 35 (.tmp 34), type := 35, pos := "bytes.go:15", after := #[⟨28, .data⟩], guard := none }) (v := ?vv26) ?hy26 ?rest26
  case hy26 => (refine Or.inl ⟨by rfl, ?_⟩; intro W hSw; (try dsimp only at hSw); go_simp; (try with_reducible rfl))
  try simp only [Act.put, pzz]
  refine wpAnyH_ready (rs := [19]) (by kernel_rfl) (by simp) ?_
  have hn1 := nums_new w1.drew [kd, fr, tt, g, nd, tr, lw, co] 8 rfl (by omega) _ (by simp; rfl) 3
  have HB2 := Lib.hid (below_of_drew (below_new (w := w1.drew) (.cells #[.int .i64 kd, .int .i64 fr, .int .i64 tt, .int .i64 g, .int .i64 nd, .int .i64 tr, .int .i64 lw, .int .i64 co] 3)))
  have HN1 := Lib.hid (HNS.out _ _ hn1)
  clear hn1
  refine AllReadyH.cons (o := { dst := some 25, op := .buildSlice 64 8 #[(0, .tmp 7), (1, .tmp 9), (2, .tmp 11), (3, .tmp 14), (4, .tmp 17), (5, .tmp 20), (6, .tmp 22), (7, .tmp 24)], type := 64, pos := "bytes.go:15", after := #[⟨1, .data⟩, ⟨3, .data⟩, ⟨5, .data⟩, ⟨8, .data⟩, ⟨11, .data⟩, ⟨14, .data⟩, ⟨16, .data⟩, ⟨18, .data⟩], guard := none }) rfl (fun K hK => ?step27) ?more27
  case more27 => exact AllReadyH.nil
  ((go_simp))
  refine hK.out _ _ ?hS27 (fun hHeld => ?rr27)
  case hS27 => (exact HBX.out _ HB2.out)
  clear hK K
  try simp only [Act.put, pzz]
  refine wpAnyH_ready (rs := [20]) (by kernel_rfl) (by simp) ?_
  refine AllReadyH.cons (o := { dst := some 26, op := .call { callee := .value (.func 143), args := #[.tmp 25], argTypes := #[64] }, type := 54, pos := "bytes.go:16", after := #[⟨19, .data⟩], guard := none }) rfl (fun K hK => ?step28) ?more28
  case more28 => exact AllReadyH.nil
  ((go_simp; go_at_call 143; refine (HN1.out).mono ?_; rintro e w3 ⟨v3, rfl, ho3, hb3⟩; have HO3 := Lib.hid ho3; have HB3 := Lib.hid (HB2.out.trans (hb3.mono HB2.out.size)); obtain ⟨A3, c3, rfl⟩ := ho3.len; clear ho3 hb3; go_wp2_with fail))
  refine hK.out _ _ ?hS28 (fun hHeld => ?rr28)
  case hS28 => (exact HBX.out _ HB3.out)
  clear hK K
  try simp only [Act.put, pzz]
  refine wpAnyH_ready (rs := [24]) (by kernel_rfl) (by simp) ?_
  refine AllReadyH.cons (o := { dst := some 30, op := .call { callee := .value (.func 144), args := #[.tmp 29], argTypes := #[175] }, type := 54, pos := "bytes.go:16", after := #[⟨23, .data⟩, ⟨20, .chain⟩], guard := none }) rfl (fun K hK => ?step29) ?more29
  case more29 => exact AllReadyH.nil
  ((go_simp; go_at_call 144; refine (HNT.out _).mono ?_; rintro e w4 ⟨v4, rfl, ho4, hb4⟩; have HO4 := Lib.hid ho4; have HO34 := Lib.hid (HO3.out.below hb4); have HB4 := Lib.hid (HB3.out.trans (hb4.mono HB3.out.size)); obtain ⟨A4, c4, rfl⟩ := ho4.len; clear ho4 hb4; go_wp2_with fail))
  refine hK.out _ _ ?hS29 (fun hHeld => ?rr29)
  case hS29 => (exact HBX.out _ HB4.out)
  clear hK K
  try simp only [Act.put, pzz]
  refine wpAnyH_ready (rs := [27]) (by kernel_rfl) (by simp) ?_
  refine AllReadyH.cons (o := { dst := some 33, op := .call { callee := .value (.func 145), args := #[.tmp 32], argTypes := #[34] }, type := 54, pos := "bytes.go:17", after := #[⟨26, .data⟩, ⟨24, .chain⟩], guard := none }) rfl (fun K hK => ?step30) ?more30
  case more30 => exact AllReadyH.nil
  ((go_simp; go_at_call 145; refine (HNU.out _ (HB1.out.trans (HB4.out.mono HB1.out.size))).mono ?_; rintro e w5 ⟨v5, rfl, ho5, hb5⟩; have HO5 := Lib.hid ho5; have HO35 := Lib.hid (HO34.out.below hb5); have HO45 := Lib.hid (HO4.out.below hb5); have HB5 := Lib.hid (HB4.out.trans (hb5.mono HB4.out.size)); obtain ⟨A5, c5, rfl⟩ := ho5.len; clear ho5 hb5; go_wp2_with fail))
  refine hK.out _ _ ?hS30 (fun hHeld => ?rr30)
  case hS30 => (exact HBX.out _ HB5.out)
  clear hK K
  try simp only [Act.put, pzz]
  refine wpAnyH_ready (rs := [30]) (by kernel_rfl) (by simp) ?_
  refine AllReadyH.cons (o := { dst := some 36, op := .call { callee := .value (.func 147), args := #[.tmp 35], argTypes := #[35] }, type := 54, pos := "bytes.go:17", after := #[⟨29, .data⟩, ⟨27, .chain⟩], guard := none }) rfl (fun K hK => ?step31) ?more31
  case more31 => exact AllReadyH.nil
  ((go_simp; go_at_call 147; refine (HOE.out _ (HB1.out.trans (HB5.out.mono HB1.out.size))).mono ?_; rintro e w6 ⟨v6, rfl, ho6, hb6⟩; have HCV := Lib.hid (bis_string ho6.bis); have HO36 := Lib.hid (HO35.out.below hb6); have HO46 := Lib.hid (HO45.out.below hb6); have HO56 := Lib.hid (HO5.out.below hb6); have HB6 := Lib.hid (HB5.out.trans (hb6.mono HB5.out.size)); obtain ⟨A6, c6, rfl⟩ := ho6.len; clear ho6 hb6; go_wp2_with fail))
  refine hK.out _ _ ?hS31 (fun hHeld => ?rr31)
  case hS31 => (exact HBX.out _ HB6.out)
  clear hK K
  try simp only [Act.put, pzz]
  have hcv := HCV.out
  refine wpAnyH_ready (rs := [31]) (by kernel_rfl) (by simp) ?_
  refine AllReadyH.cons (o := { dst := some 37, op := .convert 54 9 (.tmp 36), type := 9, pos := "bytes.go:15", after := #[⟨30, .data⟩], guard := none }) rfl (fun K hK => ?step32) ?more32
  case more32 => exact AllReadyH.nil
  ((go_simp))
  refine hK.out _ _ ?hS32 (fun hHeld => ?rr32)
  case hS32 => (exact HBX.out _ HB6.out)
  clear hK K
  try simp only [Act.put, pzz]
  clear hcv
  refine wpAnyH_ready (rs := [32]) (by kernel_rfl) (by simp) ?_
  refine AllReadyH.cons (o := { dst := some 38, op := .call { callee := .value (.func 146), args := #[.tmp 37], argTypes := #[9] }, type := 54, pos := "bytes.go:17", after := #[⟨31, .data⟩, ⟨30, .chain⟩], guard := none }) rfl (fun K hK => ?step33) ?more33
  case more33 => exact AllReadyH.nil
  ((go_simp; go_at_call 146; refine (HST.out _).mono ?_; rintro e w7 ⟨v7, rfl, ho7, hb7⟩; have HO7 := Lib.hid ho7; have HO37 := Lib.hid (HO36.out.below hb7); have HO47 := Lib.hid (HO46.out.below hb7); have HO57 := Lib.hid (HO56.out.below hb7); have HB7 := Lib.hid (HB6.out.trans (hb7.mono HB6.out.size)); obtain ⟨A7, c7, rfl⟩ := ho7.len; clear ho7 hb7; go_wp2_with fail))
  refine hK.out _ _ ?hS33 (fun hHeld => ?rr33)
  case hS33 => (exact HBX.out _ HB7.out)
  clear hK K
  try simp only [Act.put, pzz]
  obtain ⟨B3, hB3⟩ : ∃ B, B = natsB [kd, fr, tt, g, nd, tr, lw, co] := ⟨_, rfl⟩
  obtain ⟨B5, hB5⟩ : ∃ B, B = numsB tl := ⟨_, rfl⟩
  obtain ⟨B7, hB7⟩ : ∃ B, B = strB ⟨(opsB os).toArray⟩ := ⟨_, rfl⟩
  rw [← hB3, ← hB5, ← hB7] at HBD
  rw [← hB3] at HO37 ⊢
  rw [← hB5] at HO57 ⊢
  rw [← hB7] at HO7 ⊢
  have hpt := new_parts w7 [.slice A3 B3.length c3, .slice A4 (natB tn).length c4, .slice A5 B5.length c5, .slice A7 B7.length c7] [B3, natB tn, B5, B7] rfl (by simp) (fun x y z h1 h2 => by
    match x, h1, h2 with
    | 0, h1, h2 => cases h1; cases h2; exact HO37.out.bis
    | 1, h1, h2 => cases h1; cases h2; exact HO47.out.bis
    | 2, h1, h2 => cases h1; cases h2; exact HO57.out.bis
    | 3, h1, h2 => cases h1; cases h2; exact HO7.out.bis)
  have HB8 := Lib.hid (HB7.out.trans ((below_new (w := w7) (.cells #[.slice A3 B3.length c3, .slice A4 (natB tn).length c4, .slice A5 B5.length c5, .slice A7 B7.length c7] 54)).mono HB7.out.size))
  have HWR := Lib.hid (wrap_any (HMV.out _ (HB1.out.trans (HB8.out.mono HB1.out.size))) hpt (by rw [HBD.out.1]; have := HBD.out.2; omega))
  rw [HBD.out.1] at HWR
  clear hpt hB3 hB5 hB7
  refine wpAnyH_ready (rs := [33]) (by kernel_rfl) (by simp) ?_
  refine AllReadyH.cons (o := { dst := some 39, op := .buildSlice 239 4 #[(0, .tmp 26), (1, .tmp 30), (2, .tmp 33), (3, .tmp 38)], type := 239, pos := "bytes.go:15", after := #[⟨20, .data⟩, ⟨24, .data⟩, ⟨27, .data⟩, ⟨32, .data⟩], guard := none }) rfl (fun K hK => ?step34) ?more34
  case more34 => exact AllReadyH.nil
  ((go_simp))
  refine hK.out _ _ ?hS34 (fun hHeld => ?rr34)
  case hS34 => (exact HBX.out _ HB8.out)
  clear hK K
  try simp only [Act.put, pzz]
  refine wpAnyH_ready (rs := [34]) (by kernel_rfl) (by simp) ?_
  refine AllReadyH.cons (o := { dst := some 40, op := .call { callee := .value (.func 142), args := #[.tmp 39], argTypes := #[239] }, type := 54, pos := "bytes.go:15", after := #[⟨33, .data⟩, ⟨32, .chain⟩], guard := none }) rfl (fun K hK => ?step35) ?more35
  case more35 => exact AllReadyH.nil
  ((go_simp; go_at_call 142; refine (HWR.out).mono ?_; rintro e w9 ⟨v9, rfl, _, ho9, hb9⟩; have HO9 := Lib.hid (ho9 (by have := HBD.out.2; omega)); have HB9 := Lib.hid (HB8.out.trans (hb9.mono HB8.out.size)); obtain ⟨A9, c9, rfl⟩ := HO9.out.len; clear ho9 hb9; go_wp2_with fail))
  refine hK.out _ _ ?hS35 (fun hHeld => ?rr35)
  case hS35 => (exact HBX.out _ HB9.out)
  clear hK K
  try simp only [Act.put, pzz]
  refine tkH (i := 35) (oi := { dst := some 2, op := .assign (.tmp 40), type := 54, pos := "bytes.go:15", after := #[⟨34, .data⟩, ⟨34, .chain⟩, ⟨0, .phase⟩, ⟨1, .phase⟩, ⟨2, .phase⟩, ⟨3, .phase⟩, ⟨4, .phase⟩, ⟨5, .phase⟩, ⟨6, .phase⟩, ⟨7, .phase⟩, ⟨8, .phase⟩, ⟨9, .phase⟩, ⟨10, .phase⟩, ⟨11, .phase⟩, ⟨12, .phase⟩, ⟨13, .phase⟩, ⟨14, .phase⟩, ⟨15, .phase⟩, ⟨16, .phase⟩, ⟨17, .phase⟩, ⟨18, .phase⟩, ⟨19, .phase⟩, ⟨20, .phase⟩, ⟨21, .phase⟩, ⟨22, .phase⟩, ⟨23, .phase⟩, ⟨24, .phase⟩, ⟨25, .phase⟩, ⟨26, .phase⟩, ⟨27, .phase⟩, ⟨28, .phase⟩, ⟨29, .phase⟩, ⟨30, .phase⟩, ⟨31, .phase⟩, ⟨32, .phase⟩, ⟨33, .phase⟩, ⟨34, .phase⟩], guard := none }) (v := ?vv36) ?hy36 ?rest36
  case hy36 => (refine Or.inl ⟨by rfl, ?_⟩; intro W hSw; (try dsimp only at hSw); go_simp; (try with_reducible rfl))
  try simp only [Act.put, pzz]
  refine wpAnyH_done (by kernel_rfl) ?_ _
  clear hHeld
  dsimp only [onlyN]
  go_wp2_with fail
  go_ret
  exact ⟨_, rfl, HO9.out.lower (Nat.le_trans HB1.out.size HB8.out.size), HB1.out.trans (HB9.out.mono HB1.out.size)⟩
end Go.Proofs.YtmbonngjkgcijaaGreatDoor

namespace Go.Proofs.YtmbonngjkgcijaaGreatDoor
open Go.RowKit Go.Shelf

theorem toList_inj {s s' : ByteArray} : s.toList = s'.toList ↔ s = s' := by
  rw [ByteArray.toList_eq, ByteArray.toList_eq]
  constructor
  · intro h
    obtain ⟨⟨l⟩⟩ := s
    obtain ⟨⟨l'⟩⟩ := s'
    simp only at h
    rw [h]
  · rintro rfl; rfl
theorem op_ne {x y : OpV} (h : ¬ x = y) : x.k = y.k → x.s.toList = y.s.toList → x.n = y.n → ¬ x.lo = y.lo := fun h1 h2 h3 h4 => h (by
  obtain ⟨k, s, n, lo⟩ := x
  obtain ⟨k', s', n', lo'⟩ := y
  have h5 : s = s' := toList_inj.1 h2
  clear h2
  simp only at h1 h3 h4
  subst h1 h3 h4 h5
  rfl)
end Go.Proofs.YtmbonngjkgcijaaGreatDoor

namespace Go.Proofs.YtmbonngjkgcijaaGreatDoor
open Go.RowKit Go.Shelf

theorem NumsAt.nil (w : World) : NumsAt w (.slice none 0 0) [] := ⟨none, 0, rfl, Nat.le_refl _, by unfold maxLen; omega, fun i x h => by simp at h⟩
theorem OpsAt.nil (w : World) : OpsAt w (.slice none 0 0) [] := ⟨none, 0, rfl, Nat.le_refl _, by unfold maxLen; omega, fun i x h => by simp at h⟩
end Go.Proofs.YtmbonngjkgcijaaGreatDoor

namespace Go.Proofs.YtmbonngjkgcijaaGreatDoor
open Go.RowKit Go.Shelf

theorem setCells_at (b : Nat) {T : TypeId} : ∀ (vs pre rest : List Value) (w : World), rest.length = vs.length → w.heap[b]? = some (.cells (pre ++ rest).toArray T (0, 0)) → (w.setCells b pre.length vs).heap[b]? = some (.cells (pre ++ vs).toArray T (0, 0))
  | [], pre, rest, w, hl, h => by
    obtain rfl := List.length_eq_zero_iff.1 hl
    exact h
  | v :: r, pre, [], w, hl, h => by simp at hl
  | v :: r, pre, y :: rest, w, hl, h => by
    have h1 := set_at h pre.length v
    have e : (pre ++ y :: rest).toArray.setIfInBounds pre.length v = ((pre ++ [v]) ++ rest).toArray := by simp
    rw [e] at h1
    have := setCells_at b r (pre ++ [v]) rest _ (by simpa using hl) h1
    simp only [List.length_append, List.length_singleton, List.append_assoc, List.singleton_append] at this
    exact this
theorem setCells_touch {S : Nat → Prop} {a : World} (b : Nat) (hb : b < a.heap.size → S b) : ∀ (vs : List Value) (o : Nat) (w : World), Touch S a w → Touch S a (w.setCells b o vs)
  | [], _, _, h => h
  | v :: r, o, w, h => setCells_touch b hb r (o + 1) _ (h.setCell ⟨b, o, none⟩ hb v)
theorem Only.touch {g : Nat} {w w' : World} (h : Only g w w') : Touch (fun k => k = g) w w' := ⟨h.os, h.tape, h.output, h.size, fun k hk hne => h.block k hk hne⟩
/-- A block that begins with a number of 64 bits is none of an error's. -/
theorem ErrIs.apart {w w' : World} {b : Nat} {z : Int} (hc : w.cell? ⟨b, 0, none⟩ = some (.int .i64 z)) (ht : Touch (fun k => k = b) w w') : ∀ (c : List Lk) (v : Value), ErrIs w c v → ErrIs w' c v := by
  have key : ∀ (cs : Array Value) (x : Value) (k : Nat) (t : TypeId), w.heap[k]? = some (.cells cs t (0, 0)) → cs[0]? = some x → (∃ t u, x = .iface t u) → w'.heap[k]? = some (.cells cs t (0, 0)) := fun cs x k t h h0 hx => by
    have hk : k ≠ b := fun e => by
      subst e
      rw [cell_of h, h0] at hc
      obtain ⟨t, u, rfl⟩ := hx
      cases hc
    rw [ht.block k (heap_lt h) hk]
    exact h
  intro c
  induction c with
  | nil => intro v h; exact h
  | cons k r ih =>
    intro v h
    cases k with
    | num e => exact h
    | plc p =>
      obtain ⟨h1, b', x, e, hb, hx⟩ := h
      exact ⟨h1, b', x, e, key _ x b' _ hb rfl (by cases r with | nil => exact absurd rfl h1 | cons k r => exact hx.form1), ih x hx⟩
    | nam s =>
      obtain ⟨h1, b', x, e, hb, hx⟩ := h
      exact ⟨h1, b', x, e, key _ x b' _ hb rfl (by cases r with | nil => exact absurd rfl h1 | cons k r => exact hx.form1), ih x hx⟩
    | bnd l g =>
      obtain ⟨h1, b', x, e, hb, hx⟩ := h
      exact ⟨h1, b', x, e, key _ x b' _ hb rfl (by cases r with | nil => exact absurd rfl h1 | cons k r => exact hx.form1), ih x hx⟩
theorem Rd.apart {w w' : World} {g : Nat} {A : Option Addr} {cap : Nat} {bs : List UInt8} {pos : Nat} {ev : Value} {c : List Lk} {b : Nat} {z : Int} (h : Rd w g A cap bs pos ev c) (hc : w.cell? ⟨b, 0, none⟩ = some (.int .i64 z)) (ht : Touch (fun k => k = b) w w') : Rd w' g A cap bs pos ev c := by
  have hgb : g ≠ b := fun e => by
    subst e
    rw [cell_of h.blk] at hc
    cases hc
  refine ⟨(ht.block g (heap_lt h.blk) hgb).trans h.blk, h.err.apart hc ht, h.le, h.max, h.pos_le, fun i x hi => ?_⟩
  obtain ⟨gb, q1, q2, q3, q4⟩ := h.byt i x hi
  have h0 : 0 < bs.length := Nat.lt_of_le_of_lt (Nat.zero_le _) (List.getElem?_eq_some_iff.1 hi).1
  obtain ⟨gb', p1, _, _, p4⟩ := h.byt 0 bs[0] (List.getElem?_eq_getElem h0)
  obtain rfl : gb' = gb := by
    have := p1.symm.trans q1
    injection this with e
    injection e
  have hne : gb' ≠ b := fun e => by
    subst e
    rw [p4] at hc
    cases hc
  exact ⟨gb', q1, q2, Nat.lt_of_lt_of_le q3 ht.size, (World.cell?_of_block (a := ⟨gb', i, none⟩) (ht.block gb' q3 hne)).trans q4⟩
theorem RdS.apart {w w' : World} {g : Nat} {A : Option Addr} {cap : Nat} {bs : List UInt8} {st : Option Nat} {b : Nat} {z : Int} (h : RdS w g A cap bs st) (hc : w.cell? ⟨b, 0, none⟩ = some (.int .i64 z)) (ht : Touch (fun k => k = b) w w') : RdS w' g A cap bs st := by
  cases st with
  | none =>
    obtain ⟨p, e, t, u, h1, h2, h3, h⟩ := h
    exact ⟨p, e, t, u, h1, h2, h3, h.apart hc ht⟩
  | some p => exact Rd.apart h hc ht
/-- A row of one's own that is nil, or begins with a number. -/
def RowN (w : World) (B z : Nat) (v : Value) (n : Nat) (l : List Value) : Prop := RowIs w z v n l ∧ (∀ b, v.ownBlock = some b → B ≤ b ∧ ∃ x, l[0]? = some (.int .i64 x)) ∧ (l = [] → v = .slice none 0 0)
theorem RowN.cell {w : World} {B z : Nat} {v : Value} {n : Nat} {l : List Value} (h : RowN w B z v n l) {b : Nat} (hb : v.ownBlock = some b) : ∃ x, w.cell? ⟨b, 0, none⟩ = some (.int .i64 x) := by
  obtain ⟨x, hx⟩ := (h.2.1 b hb).2
  rcases h.1 with ⟨rfl, _⟩ | ⟨g, cap, rfl, _, _, hr⟩
  · cases hb
  · cases hb
    exact ⟨x, hr.holds 0 _ hx⟩
/-- Behind an append onto such a row the reader is as it was. -/
theorem RdS.grown {w w' : World} {g : Nat} {A : Option Addr} {cap : Nat} {bs : List UInt8} {st : Option Nat} {B z : Nat} {v : Value} {n : Nat} {l : List Value} (h : RdS w g A cap bs st) (hr : RowN w B z v n l) (hg : w.grownBy w' v.ownBlock) : RdS w' g A cap bs st := by
  have ht := (Touch.refl (fun k => v.ownBlock = some k) w).grown hg (fun k e _ => e)
  cases hv : v.ownBlock with
  | none =>
    refine h.below ⟨ht.os, ht.tape, ht.output, ht.size, fun k hk => ht.block k hk (fun e => ?_)⟩
    rw [hv] at e
    cases e
  | some b =>
    obtain ⟨x, hx⟩ := hr.cell hv
    refine h.apart hx (ht.mono fun k _ e => ?_)
    rw [hv] at e
    exact (Option.some.inj e).symm
theorem RowN.grown {w w' : World} {B z : Nat} {v v' : Value} {n n' : Nat} {l l' : List Value} (h : RowN w B z v n l) (hb : B ≤ w.heap.size) (hr : RowIs w' z v' n' l') (hv : v'.ownBlock = v.ownBlock ∨ v'.ownBlock = some w.heap.size) (h0 : ∃ x, l'[0]? = some (.int .i64 x)) : RowN w' B z v' n' l' := by
  refine ⟨hr, fun b e => ⟨?_, h0⟩, fun e => ?_⟩
  · rcases hv with e2 | e2
    · exact (h.2.1 b (e2 ▸ e)).1
    · rw [e2] at e
      have := Option.some.inj e
      omega
  · obtain ⟨x, hx⟩ := h0
    rw [e] at hx
    cases hx
set_option maxRecDepth 100000 in
set_option maxHeartbeats 1000000 in
theorem small_u {w : World} {g : Nat} {A : Option Addr} {cap : Nat} {bs : List UInt8} {st : Option Nat} (h : RdS w g A cap bs st) :
    Calls Tryz.prog 102 #[.pointer (some ⟨g, 0, none⟩)] w fun e w' => e = .returned (.int .i64 (cutS (natS bs st).1)) ∧ RdS w' g A cap bs (natS bs st).2 ∧ Only g w w' := by
  have HN := Lib.hid (nat_u h)
  have hle := natS_le bs st
  obtain ⟨n, s, hn⟩ : ∃ n s, natS bs st = (n, s) := ⟨_, _, rfl⟩
  rw [hn] at HN hle ⊢
  simp only at HN hle ⊢
  have HC : IntKind.i64.wrap (min (n : Int) 1048578) = cutS n := by
    unfold cutS
    rw [IntWalk.i64_in _ (by omega)]
    omega
  clear h hn hle
  go_enter Tryz.func102, Tryz.ntmps102
  go_wp2_with fail
  refine (HN.out).mono ?_
  rintro e w1 ⟨rfl, h1, h2⟩
  have HF := Lib.hid (And.intro h1 h2)
  clear h1 h2
  go_wp2_with fail
  go_ret
  exact ⟨rfl, HF.out⟩
def numC (l : List Nat) : List Value := l.map fun n => .int .i64 (numV n)
theorem infoI : (Tryz.prog.info? 2).map (fun i => (i.zero, i.size, i.bytes)) = some (some (.int .i64 0), 1, 8) := by kernel_rfl
theorem src_num {w : World} {x : Value} {t : TypeId} {b : Nat} (h : w.heap[b]? = some (.cells #[x] t (0, 0))) (hx : x.oneCell' = true) : Src Tryz.prog 1 34 (.slice (some ⟨b, 0, none⟩) 1 1) 1 [x] w :=
  Src.ofSlice _ Tryz.underlying34 ⟨b, 0, none⟩ 1 1 [x] rfl (fun j u hu => by
    rw [add0, cell_of h]
    simpa using hu) (by simpa using hx)
theorem numC_first {l : List Nat} (h : l ≠ []) : ∃ x, (numC l)[0]? = some (.int .i64 x) := by
  cases l with
  | nil => exact absurd rfl h
  | cons a r => exact ⟨_, rfl⟩
set_option maxRecDepth 100000 in
set_option maxHeartbeats 2000000 in
theorem told_u {w : World} {g : Nat} {A : Option Addr} {cap : Nat} {bs : List UInt8} {st : Option Nat} (h : RdS w g A cap bs st) :
    Calls Tryz.prog 104 #[.pointer (some ⟨g, 0, none⟩)] w fun e w' => ∃ v, e = .returned v ∧ RowN w' w.heap.size 1 v (min (natS bs st).1 9) (numC (hdS bs (min (natS bs st).1 9) (natS bs st).2).1) ∧ RdS w' g A cap bs (hdS bs (min (natS bs st).1 9) (natS bs st).2).2 ∧ Only g w w' := by
  have HN := Lib.hid (nat_u h)
  have hgl := h.lt
  obtain ⟨n, s1, hn⟩ : ∃ n s, natS bs st = (n, s) := ⟨_, _, rfl⟩
  rw [hn] at HN ⊢
  simp only at HN ⊢
  obtain ⟨k, hk⟩ : ∃ k, min n 9 = k := ⟨_, rfl⟩
  have hkI : min (n : Int) 9 = (k : Int) := by omega
  have hk9 : k ≤ 9 := by omega
  rw [hk]
  clear h hn hk
  go_enter Tryz.func104, Tryz.ntmps104
  go_wp2_with fail
  refine (HN.out).mono ?_
  rintro e w1 ⟨rfl, h1, h2⟩
  have HR := Lib.hid h1
  have HO := Lib.hid h2
  clear h1 h2 HN
  go_wp2_with fail
  go_loopw [3, 7] (fun bv iv wr => ∃ i : Nat, i ≤ k ∧ iv = .int .u64 i ∧ RowN wr w.heap.size 1 bv i (numC (hdS bs i s1).1) ∧ RdS wr g A cap bs (hdS bs i s1).2 ∧ Only g w wr) (fun _ iv _ => k - (intOf iv).toNat)
  case atStart => exact ⟨0, Nat.zero_le _, rfl, ⟨RowIs.nil _ _, (fun b e => by cases e), fun _ => rfl⟩, HR.out, HO.out⟩
  case round =>
    obtain ⟨i, hi, rfl, hrow, hR, hO⟩ := hrel
    by_cases hlt : i < k
    · have HNU := Lib.hid (num_u hR)
      have hsn := hdS_snoc bs i s1
      have hlen := hdS_len bs i s1
      obtain ⟨l, s2, hl⟩ : ∃ l s2, hdS bs i s1 = (l, s2) := ⟨_, _, rfl⟩
      rw [hl] at hrow HNU hsn hlen
      unfold numS at HNU
      obtain ⟨x, s3, hx⟩ : ∃ x s3, natS bs s2 = (x, s3) := ⟨_, _, rfl⟩
      simp only at hrow HNU hsn hlen
      rw [hx] at HNU hsn
      simp only at HNU hsn
      have HSN := Lib.hid hsn
      have HROW := Lib.hid hrow
      have HOW := Lib.hid hO
      have HLT := Lib.hid hlt
      have HLEN := Lib.hid hlen
      have hiI : (i : Int) < (k : Int) := by omega
      have hii : (i : Int) ≤ 9 := by omega
      obtain ⟨Al, cl, rfl, _⟩ := hrow.1.form
      clear hrow hsn hl hx hO hlt hR hlen
      go_wp2_with fail
      refine (HNU.out).mono ?_
      rintro e w3 ⟨rfl, hR3, hO3⟩
      have hb4 := below_new (w := w3) (.cells #[.int .i64 (numV x)] 2)
      have hat := alloc_at w3 (.cells #[.int .i64 (numV x)] 2)
      have HO3 := Lib.hid (HOW.out.trans (hO3.trans (Only.of_below hb4)))
      have HR3 := Lib.hid (hR3.below hb4)
      have HRW : Hid (RowN (w3.alloc (.cells #[.int .i64 (numV x)] 2)) w.heap.size 1 (.slice Al i cl) i (numC l)) := Lib.hid ⟨(HROW.out.1.touch hO3.touch (fun b e hbg => by have := (HROW.out.2.1 b e).1; omega)).below hb4, HROW.out.2⟩
      have HSRC := Lib.hid (src_num hat rfl)
      clear hR3 hO3 hb4 hat
      go_wp2_with (at_builtin; refine wpList_append_row _ _ Tryz.underlying34 infoI rfl (by decide) (by decide) _ rfl _ _ 34 rfl i 1 (numC l) [.int .i64 (numV x)] _ _ rfl rfl HRW.out.1 HSRC.out ?_ ?_)
      all_goals first | omega | skip
      intro v' w' hr5 hg5 hb5
      have HNEW : Hid (RowN w' w.heap.size 1 v' (i + 1) (numC (l ++ [x])) ∧ RdS w' g A cap bs s3 ∧ Only g w w') := Lib.hid (by
        have e : numC l ++ [.int .i64 (numV x)] = numC (l ++ [x]) := by simp [numC]
        rw [e] at hr5
        refine ⟨HRW.out.grown HO3.out.size hr5 (by rw [asz]; exact hb5) (numC_first (by simp)), HR3.out.grown HRW.out hg5, ?_⟩
        have ht := (Touch.refl (fun k => (Value.slice Al i cl).ownBlock = some k) (w3.alloc (.cells #[.int .i64 (numV x)] 2))).grown hg5 (fun k e _ => e)
        exact HO3.out.below_after (B := w.heap.size) (ht.below (fun b e => (HRW.out.2.1 b e).1) HO3.out.size) (Nat.le_refl _))
      clear hr5 hg5 hb5
      go_wp2_with fail
      go_roundw
      case rel => exact ⟨i + 1, HLT.out, by go_num, by rw [HSN.out]; exact HNEW.out.1, by rw [HSN.out]; exact HNEW.out.2.1, HNEW.out.2.2⟩
      case measure => have := HLT.out; simp [intOf]; omega
    · obtain rfl : i = k := by omega
      have HF := Lib.hid (And.intro hrow (And.intro hR hO))
      obtain ⟨Al, cl, rfl, _⟩ := hrow.1.form
      clear hrow hR hO
      go_wp2_with fail
      go_ret
      exact ⟨_, rfl, HF.out⟩
end Go.Proofs.YtmbonngjkgcijaaGreatDoor
