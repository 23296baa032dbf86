/- The net: Twice. A law's own net: each call, told by its packets in plain words. -/
import Derived.Test.YtmbonngjkgcijaaGreatDoorZNetJ
set_option linter.unusedSimpArgs false
set_option linter.unusedVariables false
set_option linter.unnecessarySimpa false
namespace Go.Proofs.YtmbonngjkgcijaaGreatDoor
open Go.RowKit Go.Shelf
theorem nstep_app_run {P : Program} {ops : Array Oper} {o : Oper} {a : Act} {w wa : World} {K : Act → World → Prop} {Q : Exit → Act → World → Prop} {E : Prop} {T tx : TypeId} {u v v' : Value}
    (hrun : (Builtin.append_ #[T, tx] o.type #[u, v]).run P w = .ok v' wa) (hgd : o.guard = none) (s x : Operand) (ho : o.op = .call { callee := .builtin .append, args := #[s, x], argTypes := #[T, tx] })
    (hs : a.eval s = u) (hx : a.eval x = v) (h : K (a.put o.dst v') wa) : if Region.wanted o (yielded ops a.tmps) = true then Oper.wp P o a w K Q else E := by
  have hw : Region.wanted o (yielded ops a.tmps) = true := by simp [Region.wanted, hgd]
  rw [if_pos hw]
  unfold Oper.wp execOp
  simp only [ho, resolve, invoke, builtin, Sem.run_bind, Sem.run_pure, Result.andThen_ok, List.map_toArray, List.map_cons, List.map_nil, hs, hx, hrun]
  exact h
section
variable {w : World} {b : Nat} {most : Int} {v : Value} {L : List Pk} {mp : Nat} {C : List MapEntry} {c : Nat} {ro : Nat → Nat}
/-- A new packet, with bytes of its own, behind the others. -/
theorem napp_new (h : NetAt w b most v L mp C c ro) {w3 : World} (hb3 : Below w.heap.size w w3) {g1 cp1 : Nat} {bs : List UInt8} {site : Int} (hc : OwnC w3 w.heap.size g1 cp1 bs) (hen : bs ≠ [] ∧ bs.length ≤ 20000) (hL : L.length + 1 ≤ 1024) :
    ∃ A6 n6 c6 w6, (Builtin.append_ #[98, 98] 98 #[v, .slice (some ⟨w3.heap.size + 1, 0, none⟩) 1 1]).run Tryz.prog ((w3.alloc (.cells #[.slice (some ⟨g1, 0, none⟩) bs.length cp1, .int .i64 site, .int .i64 0] 125)).alloc (.cells #[.pointer (some ⟨w3.heap.size, 0, none⟩)] 120)) = .ok (.slice A6 n6 c6) w6 ∧ w6.cell? ⟨b, 1, none⟩ = some v ∧ w6.frozen? ⟨b, 1, none⟩ = false ∧ NetP w b most mp C c ro (L.map Pk.p ++ [(bs, site, 0)]) (w6.setCell ⟨b, 1, none⟩ (.slice A6 n6 c6)) ∧ Touch (fun k => ro k = 3) w w6 := by
  obtain ⟨x, hx⟩ : ∃ x : Pk, x = ⟨bs, site, 0, w3.heap.size, g1, cp1⟩ := ⟨_, rfl⟩
  have hb4 := below_new (w := w3) (.cells #[.slice (some ⟨g1, 0, none⟩) bs.length cp1, .int .i64 site, .int .i64 0] 125)
  have hat4 := alloc_at w3 (.cells #[.slice (some ⟨g1, 0, none⟩) bs.length cp1, .int .i64 site, .int .i64 0] 125)
  have hb5 := below_new (w := w3.alloc (.cells #[.slice (some ⟨g1, 0, none⟩) bs.length cp1, .int .i64 site, .int .i64 0] 125)) (.cells #[.pointer (some ⟨w3.heap.size, 0, none⟩)] 120)
  have hat5 := alloc_at (w3.alloc (.cells #[.slice (some ⟨g1, 0, none⟩) bs.length cp1, .int .i64 site, .int .i64 0] 125)) (.cells #[.pointer (some ⟨w3.heap.size, 0, none⟩)] 120)
  rw [asz] at hat5
  have hb35 := hb4.trans (hb5.mono hb4.size)
  have hb45 := hb3.trans (hb35.mono hb3.size)
  have hg1 : w.heap.size ≤ g1 ∧ g1 < w3.heap.size := ⟨hc.new, hc.lt⟩
  have hro0 : ∀ k, w.heap.size ≤ k → ro k = 0 := fun k hk => by
    by_cases h0 : ro k = 0
    · exact h0
    · have := h.lt k h0; omega
  have hbes := (h.below hb45).beside (x := x) (by
    rw [hx]
    exact (hb5.block _ (heap_lt hat4)).trans hat4) (by
    rw [hx]
    exact (hc.lower').keep hb35.size (hb35.block _ hg1.2)) (by rw [hx]; exact hen) (by
    rw [hx]
    exact ⟨hro0 _ hb3.size, hro0 _ hg1.1⟩) (by rw [hx]; show w3.heap.size ≠ g1; omega)
  obtain ⟨v', w6, ro', hr6, hc6, hf6, hn6, hst6, ⟨A6, n6, c6, rfl⟩, ht6⟩ := napp hbes.1 hbes.2 hL (q := w3.heap.size + 1) (by rw [hx]; exact hat5)
  have hrp : ∀ k, k < w.heap.size → roPk ro x.pb x.g k = ro k := fun k hk => by
    unfold roPk
    rw [hx, if_neg (by show ¬ k = w3.heap.size; have := hb3.size; omega), if_neg (by show ¬ k = g1; omega)]
  exact ⟨A6, n6, c6, w6, hr6, hc6, hf6, ⟨_, ro', L ++ [x], hn6, ⟨((Touch.of_below hb45 : Touch (fun k => ro k ≠ 0) _ _)).trans hst6.1 (fun k hk e => by rw [← hrp k hk]; exact e), fun k hk => by rw [hst6.2 k (Nat.lt_of_lt_of_le hk hb45.size)]; exact hrp k hk⟩, by rw [List.map_append, hx]; rfl⟩, ((Touch.of_below hb45 : Touch (fun k => ro k = 3) _ _)).trans ht6 (fun k hk e => by rw [← hrp k hk]; exact e)⟩
set_option maxRecDepth 100000 in
set_option maxHeartbeats 2000000 in
theorem nTwice_ok (hG : Glob w) (h0 : ro 1 = 0) (h : NetAt w b most v L mp C c ro) (hmost : most ≤ 1024) {i : Nat} {x : Pk} (hi : L[i]? = some x) (hl : (L.length : Int) < most) : Calls Tryz.prog 26 #[.pointer (some ⟨b, 0, none⟩), .int .i64 i] w fun e w' => e = .returned (.int .i64 0) ∧ NetP w b most mp C c ro (L.map Pk.p ++ [(x.bs, x.site, 0)]) w' := by
  have hx := List.mem_of_getElem? hi
  have HF := Lib.hid (nfind_ok h hi)
  have HFU := Lib.hid (nfull_any h)
  rw [decide_eq_false (by omega)] at HFU
  have HCL : Hid (∀ W, Below w.heap.size w W → Calls Tryz.prog 65 #[x.v] W fun e w' => ∃ g3 c3, e = .returned (.slice (some ⟨g3, 0, none⟩) x.bs.length c3) ∧ OwnC w' W.heap.size g3 c3 x.bs ∧ Below W.heap.size W w') := Lib.hid (fun W hW => by
    refine (clone_any ((h.below hW).by hx).bis (by have := (h.few.2 x hx).2; omega)).mono ?_
    rintro e w' ⟨v', rfl, ho, hb⟩
    rcases ho with ⟨_, e⟩ | ⟨g3, c3, rfl, hc⟩
    · exact ((h.few.2 x hx).1 e).elim
    · exact ⟨g3, c3, rfl, hc, hb⟩)
  have HAP := Lib.hid (fun (w3 : World) hb3 g1 cp1 hc => napp_new (w3 := w3) (g1 := g1) (cp1 := cp1) (site := x.site) h hb3 hc (h.few.2 x hx) (by omega))
  have HCB : Hid (∀ W, Below w.heap.size w W → W.cell? ⟨b, 1, none⟩ = some v) := Lib.hid (fun W hW => (h.below hW).cell1)
  have HCE : Hid (∀ W, Touch (fun k => ro k = 1 ∨ ro k = 3) w W → W.cell? ⟨x.pb, 0, none⟩ = some x.v ∧ W.cell? ⟨x.pb, 1, none⟩ = some (.int .i64 x.site)) := Lib.hid (fun W hW => by
    have e := (hW.block x.pb (heap_lt (h.pk x hx)) (fun q => by have := (h.rp x hx).1; omega)).trans (h.pk x hx)
    exact ⟨cell_of e 0, cell_of e 1⟩)
  have HRB := Lib.hid h.rb
  have HCD : Hid (∀ W, NetP w b most mp C c ro (L.map Pk.p ++ [(x.bs, x.site, 0)]) W → Calls Tryz.prog 48 #[.nilIface] W fun e w' => e = .returned (.int .i64 0) ∧ Below W.heap.size W w') := Lib.hid (fun W hp => by
    obtain ⟨v', ro', L', h1, h2, _⟩ := hp
    exact codeNil (hG.step h0 h2))
  have HNE := Lib.hid (h.few.2 x hx)
  obtain ⟨A, cp, rfl, _⟩ := h.row.form
  unfold Pk.ptr at HF
  unfold Pk.v at HCL HCE
  obtain ⟨n, hn⟩ : ∃ n, x.bs.length = n := ⟨_, rfl⟩
  rw [hn] at HCL HCE HAP
  clear h hi hG h0 hmost hx hl hn
  go_enter Tryz.func26, Tryz.ntmps26
  go_wp2_with fail
  refine (HF.out).mono ?_
  rintro e w1 ⟨rfl, rfl⟩
  go_wp2_with fail
  refine (HFU.out).mono ?_
  rintro e w2 ⟨rfl, hb2⟩
  have HB2 := Lib.hid hb2
  clear hb2
  go_wp2_with fail
  refine wp_only ?_
  refine wp_region_held_drew (S := fun W => W.cell? ⟨x.pb, 0, none⟩ = some (.slice (some ⟨x.g, 0, none⟩) n x.cap) ∧ W.cell? ⟨x.pb, 1, none⟩ = some (.int .i64 x.site)) (by kernel_rfl) (HCE.out _ (.of_below (below_drew HB2.out))) (fun hHeld => ?_)
  refine tkH (i := 0) (oi := { dst := some 32, op := .move (.tmp 0), type := 23, pos := "packet.go:43", after := #[], guard := none }) (v := ?vv1) ?hy1 ?rest1
  case hy1 => (refine Or.inl ⟨by rfl, ?_⟩; intro W hSw; (try dsimp only at hSw); go_simp; (try with_reducible rfl))
  try simp only [Act.put, pzz]
  refine tkH (i := 1) (oi := { dst := some 33, op := .move (.tmp 0), type := 23, pos := "packet.go:43", after := #[], guard := none }) (v := ?vv2) ?hy2 ?rest2
  case hy2 => (refine Or.inl ⟨by rfl, ?_⟩; intro W hSw; (try dsimp only at hSw); go_simp; (try with_reducible rfl))
  try simp only [Act.put, pzz]
  refine tkH (i := 2) (oi := { dst := some 34, op := .nilCheck (.tmp 33), type := 0, pos := "packet.go:43", after := #[⟨1, .data⟩], guard := none }) (v := ?vv3) ?hy3 ?rest3
  case hy3 => (refine Or.inl ⟨by rfl, ?_⟩; intro W hSw; (try dsimp only at hSw); go_simp; (try with_reducible rfl))
  try simp only [Act.put, pzz]
  refine tkH (i := 3) (oi := { dst := some 35, op := .fieldAddr 100 (.tmp 34) 1, type := 0, pos := "packet.go:43", after := #[⟨2, .data⟩], guard := none }) (v := ?vv4) ?hy4 ?rest4
  case hy4 => (refine Or.inl ⟨by rfl, ?_⟩; intro W hSw; (try dsimp only at hSw); go_simp; (try with_reducible rfl))
  try simp only [Act.put, pzz]
  refine tkH (i := 5) (oi := { dst := some 37, op := .move (.tmp 5), type := 120, pos := "packet.go:43", after := #[], guard := none }) (v := ?vv5) ?hy5 ?rest5
  case hy5 => (refine Or.inl ⟨by rfl, ?_⟩; intro W hSw; (try dsimp only at hSw); go_simp; (try with_reducible rfl))
  try simp only [Act.put, pzz]
  refine tkH (i := 6) (oi := { dst := some 38, op := .nilCheck (.tmp 37), type := 0, pos := "packet.go:43", after := #[⟨5, .data⟩], guard := none }) (v := ?vv6) ?hy6 ?rest6
  case hy6 => (refine Or.inl ⟨by rfl, ?_⟩; intro W hSw; (try dsimp only at hSw); go_simp; (try with_reducible rfl))
  try simp only [Act.put, pzz]
  refine tkH (i := 7) (oi := { dst := some 39, op := .fieldAddr 125 (.tmp 38) 0, type := 0, pos := "packet.go:43", after := #[⟨6, .data⟩], guard := none }) (v := ?vv7) ?hy7 ?rest7
  case hy7 => (refine Or.inl ⟨by rfl, ?_⟩; intro W hSw; (try dsimp only at hSw); go_simp; (try with_reducible rfl))
  try simp only [Act.put, pzz]
  refine tkH (i := 8) (oi := { dst := some 40, op := .load 54 (.tmp 39), type := 54, pos := "packet.go:43", after := #[⟨7, .data⟩], guard := none }) (v := ?vv8) ?hy8 ?rest8
  case hy8 => (refine Or.inl ⟨by rfl, ?_⟩; intro W hSw; (try dsimp only at hSw); go_simp; (try with_reducible rfl))
  try simp only [Act.put, pzz]
  refine tkH (i := 10) (oi := { dst := some 42, op := .move (.tmp 5), type := 120, pos := "packet.go:43", after := #[], guard := none }) (v := ?vv9) ?hy9 ?rest9
  case hy9 => (refine Or.inl ⟨by rfl, ?_⟩; intro W hSw; (try dsimp only at hSw); go_simp; (try with_reducible rfl))
  try simp only [Act.put, pzz]
  refine tkH (i := 11) (oi := { dst := some 43, op := .nilCheck (.tmp 42), type := 0, pos := "packet.go:43", after := #[⟨10, .data⟩], guard := none }) (v := ?vv10) ?hy10 ?rest10
  case hy10 => (refine Or.inl ⟨by rfl, ?_⟩; intro W hSw; (try dsimp only at hSw); go_simp; (try with_reducible rfl))
  try simp only [Act.put, pzz]
  refine tkH (i := 12) (oi := { dst := some 44, op := .fieldAddr 125 (.tmp 43) 1, type := 0, pos := "packet.go:43", after := #[⟨11, .data⟩], guard := none }) (v := ?vv11) ?hy11 ?rest11
  case hy11 => (refine Or.inl ⟨by rfl, ?_⟩; intro W hSw; (try dsimp only at hSw); go_simp; (try with_reducible rfl))
  try simp only [Act.put, pzz]
  refine tkH (i := 13) (oi := { dst := some 45, op := .load 3 (.tmp 44), type := 3, pos := "packet.go:43", after := #[⟨12, .data⟩], guard := none }) (v := ?vv12) ?hy12 ?rest12
  case hy12 => (refine Or.inl ⟨by rfl, ?_⟩; intro W hSw; (try dsimp only at hSw); go_simp; (try with_reducible rfl))
  try simp only [Act.put, pzz]
  have k0 := HCB.out _ (below_drew HB2.out)
  refine wpAnyH_ready (rs := [4, 9]) (by kernel_rfl) (by simp) ?_
  refine AllReadyH.cons (o := { dst := some 36, op := .load 98 (.tmp 35), type := 98, pos := "packet.go:43", after := #[⟨3, .data⟩], guard := none }) rfl (fun K hK => ?step13) ?more13
  ((go_simp; go_wp2_with fail))
  refine hK.out _ _ ?hS13 (fun hHeld => ?rr13)
  case hS13 => (exact HCE.out _ (.of_below (below_drew HB2.out)))
  clear hK K
  try simp only [Act.put, pzz]
  · clear k0
    refine wpAnyH_ready (rs := [9]) (by kernel_rfl) (by simp) ?_
    refine AllReadyH.cons (o := { dst := some 41, op := .call { callee := .value (.func 65), args := #[.tmp 40], argTypes := #[54] }, type := 54, pos := "packet.go:43", after := #[⟨8, .data⟩], guard := none }) rfl (fun K hK => ?step14) ?more14
    case more14 => exact AllReadyH.nil
    ((go_simp; go_at_call 65; refine (HCL.out _ (below_drew HB2.out)).mono ?_; rintro e w3 ⟨g3, c3, rfl, hc3, hb3⟩; go_wp2_with fail))
    refine hK.out _ _ ?hS14 (fun hHeld => ?rr14)
    case hS14 => (exact HCE.out _ (.of_below ((below_drew HB2.out).trans (hb3.mono (below_drew HB2.out).size))))
    clear hK K
    try simp only [Act.put, pzz]
    have hB3 : Below w1.heap.size w1 w3 := (below_drew HB2.out).trans (hb3.mono (below_drew HB2.out).size)
    obtain ⟨A6, n6, c6, w6, hr6, hc6, hf6, hnp, ht6⟩ := HAP.out w3 hB3 g3 c3 ⟨Nat.le_trans (below_drew HB2.out).size hc3.new, hc3.lt, hc3.le, hc3.max, hc3.holds, hc3.there⟩
    have HNP := Lib.hid hnp
    have HT6 := Lib.hid ht6
    have hb4 := below_new (w := w3) (.cells #[.slice (some ⟨g3, 0, none⟩) n c3, .int .i64 x.site, .int .i64 0] 125)
    have hb5 := below_new (w := w3.alloc (.cells #[.slice (some ⟨g3, 0, none⟩) n c3, .int .i64 x.site, .int .i64 0] 125)) (.cells #[.pointer (some ⟨w3.heap.size, 0, none⟩)] 120)
    have HB3 := Lib.hid hB3
    have HW5 := Lib.hid (And.intro (hB3.trans (hb4.mono hB3.size)) (hB3.trans ((hb4.trans (hb5.mono hb4.size)).mono hB3.size)))
    clear hb4 hb5 hnp ht6 hb3 hc3 hB3
    refine tkH (i := 14) (oi := { dst := some 46, op := .build 125 #[(0, .tmp 41), (1, .tmp 45)], type := 125, pos := "packet.go:43", after := #[⟨9, .data⟩, ⟨13, .data⟩], guard := none }) (v := ?vv15) ?hy15 ?rest15
    case hy15 => (refine Or.inl ⟨by rfl, ?_⟩; intro W hSw; (try dsimp only at hSw); go_simp; (try with_reducible rfl))
    try simp only [Act.put, pzz]
    refine wpAnyH_ready (rs := [15]) (by kernel_rfl) (by simp) ?_
    refine AllReadyH.cons (o := { dst := some 47, op := .box 125 (.tmp 46), type := 120, pos := "packet.go:43", after := #[⟨14, .data⟩], guard := none }) rfl (fun K hK => ?step16) ?more16
    case more16 => exact AllReadyH.nil
    ((go_simp; go_wp2_with fail))
    refine hK.out _ _ ?hS16 (fun hHeld => ?rr16)
    case hS16 => (exact HCE.out _ (.of_below HW5.out.1))
    clear hK K
    try simp only [Act.put, pzz]
    refine wpAnyH_ready (rs := [16]) (by kernel_rfl) (by simp) ?_
    refine AllReadyH.cons (o := { dst := some 48, op := .buildSlice 98 1 #[(0, .tmp 47)], type := 98, pos := "packet.go:43", after := #[⟨15, .data⟩], guard := none }) rfl (fun K hK => ?step17) ?more17
    case more17 => exact AllReadyH.nil
    ((go_simp; go_wp2_with fail))
    refine hK.out _ _ ?hS17 (fun hHeld => ?rr17)
    case hS17 => (exact HCE.out _ (.of_below HW5.out.2))
    clear hK K
    try simp only [Act.put, pzz]
    refine wpAnyH_ready (rs := [17]) (by kernel_rfl) (by simp) ?_
    refine AllReadyH.cons (o := { dst := some 49, op := .call { callee := .builtin .append, args := #[.tmp 36, .tmp 48], argTypes := #[98, 98] }, type := 98, pos := "packet.go:43", after := #[⟨4, .data⟩, ⟨16, .data⟩, ⟨9, .chain⟩], guard := none }) rfl (fun K hK => ?step18) ?more18
    case more18 => exact AllReadyH.nil
    (refine nstep_app_run hr6 rfl (.tmp 36) (.tmp 48) rfl rfl rfl ?_)
    refine hK.out _ _ ?hS18 (fun hHeld => ?rr18)
    case hS18 => (exact HCE.out _ (HT6.out.mono (fun k _ e => .inr e)))
    clear hK K
    try simp only [Act.put, pzz]
    refine tkH (i := 18) (oi := { dst := some 50, op := .nilCheck (.tmp 32), type := 0, pos := "packet.go:43", after := #[⟨0, .data⟩, ⟨0, .phase⟩, ⟨1, .phase⟩, ⟨2, .phase⟩, ⟨3, .phase⟩, ⟨4, .phase⟩, ⟨5, .phase⟩, ⟨6, .phase⟩, ⟨7, .phase⟩, ⟨8, .phase⟩, ⟨9, .phase⟩, ⟨10, .phase⟩, ⟨11, .phase⟩, ⟨12, .phase⟩, ⟨13, .phase⟩, ⟨14, .phase⟩, ⟨15, .phase⟩, ⟨16, .phase⟩, ⟨17, .phase⟩], guard := none }) (v := ?vv19) ?hy19 ?rest19
    case hy19 => (refine Or.inl ⟨by rfl, ?_⟩; intro W hSw; (try dsimp only at hSw); go_simp; (try with_reducible rfl))
    try simp only [Act.put, pzz]
    refine tkH (i := 19) (oi := { dst := some 51, op := .fieldAddr 100 (.tmp 50) 1, type := 0, pos := "packet.go:43", after := #[⟨18, .data⟩, ⟨0, .phase⟩, ⟨1, .phase⟩, ⟨2, .phase⟩, ⟨3, .phase⟩, ⟨4, .phase⟩, ⟨5, .phase⟩, ⟨6, .phase⟩, ⟨7, .phase⟩, ⟨8, .phase⟩, ⟨9, .phase⟩, ⟨10, .phase⟩, ⟨11, .phase⟩, ⟨12, .phase⟩, ⟨13, .phase⟩, ⟨14, .phase⟩, ⟨15, .phase⟩, ⟨16, .phase⟩, ⟨17, .phase⟩], guard := none }) (v := ?vv20) ?hy20 ?rest20
    case hy20 => (refine Or.inl ⟨by rfl, ?_⟩; intro W hSw; (try dsimp only at hSw); go_simp; (try with_reducible rfl))
    try simp only [Act.put, pzz]
    refine wpAnyH_ready (rs := [20]) (by kernel_rfl) (by simp) ?_
    refine AllReadyH.cons (o := { dst := none, op := .store 98 (.tmp 51) (.tmp 49), type := 0, pos := "packet.go:43", after := #[⟨19, .data⟩, ⟨17, .data⟩, ⟨17, .chain⟩, ⟨0, .phase⟩, ⟨1, .phase⟩, ⟨2, .phase⟩, ⟨3, .phase⟩, ⟨4, .phase⟩, ⟨5, .phase⟩, ⟨6, .phase⟩, ⟨7, .phase⟩, ⟨8, .phase⟩, ⟨9, .phase⟩, ⟨10, .phase⟩, ⟨11, .phase⟩, ⟨12, .phase⟩, ⟨13, .phase⟩, ⟨14, .phase⟩, ⟨15, .phase⟩, ⟨16, .phase⟩, ⟨17, .phase⟩], guard := none }) rfl (fun K hK => ?step21) ?more21
    case more21 => exact AllReadyH.nil
    ((go_simp; go_wp2_with fail))
    refine hK.out _ _ ?hS21 (fun hHeld => ?rr21)
    case hS21 => (exact HCE.out _ ((HT6.out.mono (fun k _ e => .inr e)).setCell ⟨b, 1, none⟩ (fun _ => .inl HRB.out) _))
    clear hK K
    try simp only [Act.put, pzz]
    refine wpAnyH_done (by kernel_rfl) ?_ _
    clear hHeld
    dsimp only [onlyN]
    go_wp2_with fail
    refine (HCD.out _ HNP.out).mono ?_
    rintro e w7 ⟨rfl, hb7⟩
    have HF7 := Lib.hid (HNP.out.after hb7)
    clear hb7
    go_wp2_with fail
    go_ret
    exact ⟨rfl, HF7.out⟩
  · clear k0
    refine AllReadyH.cons (o := { dst := some 41, op := .call { callee := .value (.func 65), args := #[.tmp 40], argTypes := #[54] }, type := 54, pos := "packet.go:43", after := #[⟨8, .data⟩], guard := none }) rfl (fun K hK => ?step22) ?more22
    case more22 => exact AllReadyH.nil
    ((go_simp; go_at_call 65; refine (HCL.out _ (below_drew HB2.out)).mono ?_; rintro e w3 ⟨g3, c3, rfl, hc3, hb3⟩; go_wp2_with fail))
    refine hK.out _ _ ?hS22 (fun hHeld => ?rr22)
    case hS22 => (exact HCE.out _ (.of_below ((below_drew HB2.out).trans (hb3.mono (below_drew HB2.out).size))))
    clear hK K
    try simp only [Act.put, pzz]
    have hB3 : Below w1.heap.size w1 w3 := (below_drew HB2.out).trans (hb3.mono (below_drew HB2.out).size)
    obtain ⟨A6, n6, c6, w6, hr6, hc6, hf6, hnp, ht6⟩ := HAP.out w3 hB3 g3 c3 ⟨Nat.le_trans (below_drew HB2.out).size hc3.new, hc3.lt, hc3.le, hc3.max, hc3.holds, hc3.there⟩
    have HNP := Lib.hid hnp
    have HT6 := Lib.hid ht6
    have hb4 := below_new (w := w3) (.cells #[.slice (some ⟨g3, 0, none⟩) n c3, .int .i64 x.site, .int .i64 0] 125)
    have hb5 := below_new (w := w3.alloc (.cells #[.slice (some ⟨g3, 0, none⟩) n c3, .int .i64 x.site, .int .i64 0] 125)) (.cells #[.pointer (some ⟨w3.heap.size, 0, none⟩)] 120)
    have HB3 := Lib.hid hB3
    have HW5 := Lib.hid (And.intro (hB3.trans (hb4.mono hB3.size)) (hB3.trans ((hb4.trans (hb5.mono hb4.size)).mono hB3.size)))
    clear hb4 hb5 hnp ht6 hb3 hc3 hB3
    refine tkH (i := 14) (oi := { dst := some 46, op := .build 125 #[(0, .tmp 41), (1, .tmp 45)], type := 125, pos := "packet.go:43", after := #[⟨9, .data⟩, ⟨13, .data⟩], guard := none }) (v := ?vv23) ?hy23 ?rest23
    case hy23 => (refine Or.inl ⟨by rfl, ?_⟩; intro W hSw; (try dsimp only at hSw); go_simp; (try with_reducible rfl))
    try simp only [Act.put, pzz]
    have k0 := HCB.out _ HB3.out
    refine wpAnyH_ready (rs := [4, 15]) (by kernel_rfl) (by simp) ?_
    refine AllReadyH.cons (o := { dst := some 36, op := .load 98 (.tmp 35), type := 98, pos := "packet.go:43", after := #[⟨3, .data⟩], guard := none }) rfl (fun K hK => ?step24) ?more24
    ((go_simp; go_wp2_with fail))
    refine hK.out _ _ ?hS24 (fun hHeld => ?rr24)
    case hS24 => (exact HCE.out _ (.of_below HB3.out))
    clear hK K
    try simp only [Act.put, pzz]
    · clear k0
      refine wpAnyH_ready (rs := [15]) (by kernel_rfl) (by simp) ?_
      refine AllReadyH.cons (o := { dst := some 47, op := .box 125 (.tmp 46), type := 120, pos := "packet.go:43", after := #[⟨14, .data⟩], guard := none }) rfl (fun K hK => ?step25) ?more25
      case more25 => exact AllReadyH.nil
      ((go_simp; go_wp2_with fail))
      refine hK.out _ _ ?hS25 (fun hHeld => ?rr25)
      case hS25 => (exact HCE.out _ (.of_below HW5.out.1))
      clear hK K
      try simp only [Act.put, pzz]
      refine wpAnyH_ready (rs := [16]) (by kernel_rfl) (by simp) ?_
      refine AllReadyH.cons (o := { dst := some 48, op := .buildSlice 98 1 #[(0, .tmp 47)], type := 98, pos := "packet.go:43", after := #[⟨15, .data⟩], guard := none }) rfl (fun K hK => ?step26) ?more26
      case more26 => exact AllReadyH.nil
      ((go_simp; go_wp2_with fail))
      refine hK.out _ _ ?hS26 (fun hHeld => ?rr26)
      case hS26 => (exact HCE.out _ (.of_below HW5.out.2))
      clear hK K
      try simp only [Act.put, pzz]
      refine wpAnyH_ready (rs := [17]) (by kernel_rfl) (by simp) ?_
      refine AllReadyH.cons (o := { dst := some 49, op := .call { callee := .builtin .append, args := #[.tmp 36, .tmp 48], argTypes := #[98, 98] }, type := 98, pos := "packet.go:43", after := #[⟨4, .data⟩, ⟨16, .data⟩, ⟨9, .chain⟩], guard := none }) rfl (fun K hK => ?step27) ?more27
      case more27 => exact AllReadyH.nil
      (refine nstep_app_run hr6 rfl (.tmp 36) (.tmp 48) rfl rfl rfl ?_)
      refine hK.out _ _ ?hS27 (fun hHeld => ?rr27)
      case hS27 => (exact HCE.out _ (HT6.out.mono (fun k _ e => .inr e)))
      clear hK K
      try simp only [Act.put, pzz]
      refine tkH (i := 18) (oi := { dst := some 50, op := .nilCheck (.tmp 32), type := 0, pos := "packet.go:43", after := #[⟨0, .data⟩, ⟨0, .phase⟩, ⟨1, .phase⟩, ⟨2, .phase⟩, ⟨3, .phase⟩, ⟨4, .phase⟩, ⟨5, .phase⟩, ⟨6, .phase⟩, ⟨7, .phase⟩, ⟨8, .phase⟩, ⟨9, .phase⟩, ⟨10, .phase⟩, ⟨11, .phase⟩, ⟨12, .phase⟩, ⟨13, .phase⟩, ⟨14, .phase⟩, ⟨15, .phase⟩, ⟨16, .phase⟩, ⟨17, .phase⟩], guard := none }) (v := ?vv28) ?hy28 ?rest28
      case hy28 => (refine Or.inl ⟨by rfl, ?_⟩; intro W hSw; (try dsimp only at hSw); go_simp; (try with_reducible rfl))
      try simp only [Act.put, pzz]
      refine tkH (i := 19) (oi := { dst := some 51, op := .fieldAddr 100 (.tmp 50) 1, type := 0, pos := "packet.go:43", after := #[⟨18, .data⟩, ⟨0, .phase⟩, ⟨1, .phase⟩, ⟨2, .phase⟩, ⟨3, .phase⟩, ⟨4, .phase⟩, ⟨5, .phase⟩, ⟨6, .phase⟩, ⟨7, .phase⟩, ⟨8, .phase⟩, ⟨9, .phase⟩, ⟨10, .phase⟩, ⟨11, .phase⟩, ⟨12, .phase⟩, ⟨13, .phase⟩, ⟨14, .phase⟩, ⟨15, .phase⟩, ⟨16, .phase⟩, ⟨17, .phase⟩], guard := none }) (v := ?vv29) ?hy29 ?rest29
      case hy29 => (refine Or.inl ⟨by rfl, ?_⟩; intro W hSw; (try dsimp only at hSw); go_simp; (try with_reducible rfl))
      try simp only [Act.put, pzz]
      refine wpAnyH_ready (rs := [20]) (by kernel_rfl) (by simp) ?_
      refine AllReadyH.cons (o := { dst := none, op := .store 98 (.tmp 51) (.tmp 49), type := 0, pos := "packet.go:43", after := #[⟨19, .data⟩, ⟨17, .data⟩, ⟨17, .chain⟩, ⟨0, .phase⟩, ⟨1, .phase⟩, ⟨2, .phase⟩, ⟨3, .phase⟩, ⟨4, .phase⟩, ⟨5, .phase⟩, ⟨6, .phase⟩, ⟨7, .phase⟩, ⟨8, .phase⟩, ⟨9, .phase⟩, ⟨10, .phase⟩, ⟨11, .phase⟩, ⟨12, .phase⟩, ⟨13, .phase⟩, ⟨14, .phase⟩, ⟨15, .phase⟩, ⟨16, .phase⟩, ⟨17, .phase⟩], guard := none }) rfl (fun K hK => ?step30) ?more30
      case more30 => exact AllReadyH.nil
      ((go_simp; go_wp2_with fail))
      refine hK.out _ _ ?hS30 (fun hHeld => ?rr30)
      case hS30 => (exact HCE.out _ ((HT6.out.mono (fun k _ e => .inr e)).setCell ⟨b, 1, none⟩ (fun _ => .inl HRB.out) _))
      clear hK K
      try simp only [Act.put, pzz]
      refine wpAnyH_done (by kernel_rfl) ?_ _
      clear hHeld
      dsimp only [onlyN]
      go_wp2_with fail
      refine (HCD.out _ HNP.out).mono ?_
      rintro e w7 ⟨rfl, hb7⟩
      have HF7 := Lib.hid (HNP.out.after hb7)
      clear hb7
      go_wp2_with fail
      go_ret
      exact ⟨rfl, HF7.out⟩
    · clear k0
      refine AllReadyH.cons (o := { dst := some 47, op := .box 125 (.tmp 46), type := 120, pos := "packet.go:43", after := #[⟨14, .data⟩], guard := none }) rfl (fun K hK => ?step31) ?more31
      case more31 => exact AllReadyH.nil
      ((go_simp; go_wp2_with fail))
      refine hK.out _ _ ?hS31 (fun hHeld => ?rr31)
      case hS31 => (exact HCE.out _ (.of_below HW5.out.1))
      clear hK K
      try simp only [Act.put, pzz]
      have k0 := HCB.out _ HW5.out.1
      refine wpAnyH_ready (rs := [4, 16]) (by kernel_rfl) (by simp) ?_
      refine AllReadyH.cons (o := { dst := some 36, op := .load 98 (.tmp 35), type := 98, pos := "packet.go:43", after := #[⟨3, .data⟩], guard := none }) rfl (fun K hK => ?step32) ?more32
      ((go_simp; go_wp2_with fail))
      refine hK.out _ _ ?hS32 (fun hHeld => ?rr32)
      case hS32 => (exact HCE.out _ (.of_below HW5.out.1))
      clear hK K
      try simp only [Act.put, pzz]
      · clear k0
        refine wpAnyH_ready (rs := [16]) (by kernel_rfl) (by simp) ?_
        refine AllReadyH.cons (o := { dst := some 48, op := .buildSlice 98 1 #[(0, .tmp 47)], type := 98, pos := "packet.go:43", after := #[⟨15, .data⟩], guard := none }) rfl (fun K hK => ?step33) ?more33
        case more33 => exact AllReadyH.nil
        ((go_simp; go_wp2_with fail))
        refine hK.out _ _ ?hS33 (fun hHeld => ?rr33)
        case hS33 => (exact HCE.out _ (.of_below HW5.out.2))
        clear hK K
        try simp only [Act.put, pzz]
        refine wpAnyH_ready (rs := [17]) (by kernel_rfl) (by simp) ?_
        refine AllReadyH.cons (o := { dst := some 49, op := .call { callee := .builtin .append, args := #[.tmp 36, .tmp 48], argTypes := #[98, 98] }, type := 98, pos := "packet.go:43", after := #[⟨4, .data⟩, ⟨16, .data⟩, ⟨9, .chain⟩], guard := none }) rfl (fun K hK => ?step34) ?more34
        case more34 => exact AllReadyH.nil
        (refine nstep_app_run hr6 rfl (.tmp 36) (.tmp 48) rfl rfl rfl ?_)
        refine hK.out _ _ ?hS34 (fun hHeld => ?rr34)
        case hS34 => (exact HCE.out _ (HT6.out.mono (fun k _ e => .inr e)))
        clear hK K
        try simp only [Act.put, pzz]
        refine tkH (i := 18) (oi := { dst := some 50, op := .nilCheck (.tmp 32), type := 0, pos := "packet.go:43", after := #[⟨0, .data⟩, ⟨0, .phase⟩, ⟨1, .phase⟩, ⟨2, .phase⟩, ⟨3, .phase⟩, ⟨4, .phase⟩, ⟨5, .phase⟩, ⟨6, .phase⟩, ⟨7, .phase⟩, ⟨8, .phase⟩, ⟨9, .phase⟩, ⟨10, .phase⟩, ⟨11, .phase⟩, ⟨12, .phase⟩, ⟨13, .phase⟩, ⟨14, .phase⟩, ⟨15, .phase⟩, ⟨16, .phase⟩, ⟨17, .phase⟩], guard := none }) (v := ?vv35) ?hy35 ?rest35
        case hy35 => (refine Or.inl ⟨by rfl, ?_⟩; intro W hSw; (try dsimp only at hSw); go_simp; (try with_reducible rfl))
        try simp only [Act.put, pzz]
        refine tkH (i := 19) (oi := { dst := some 51, op := .fieldAddr 100 (.tmp 50) 1, type := 0, pos := "packet.go:43", after := #[⟨18, .data⟩, ⟨0, .phase⟩, ⟨1, .phase⟩, ⟨2, .phase⟩, ⟨3, .phase⟩, ⟨4, .phase⟩, ⟨5, .phase⟩, ⟨6, .phase⟩, ⟨7, .phase⟩, ⟨8, .phase⟩, ⟨9, .phase⟩, ⟨10, .phase⟩, ⟨11, .phase⟩, ⟨12, .phase⟩, ⟨13, .phase⟩, ⟨14, .phase⟩, ⟨15, .phase⟩, ⟨16, .phase⟩, ⟨17, .phase⟩], guard := none }) (v := ?vv36) ?hy36 ?rest36
        case hy36 => (refine Or.inl ⟨by rfl, ?_⟩; intro W hSw; (try dsimp only at hSw); go_simp; (try with_reducible rfl))
        try simp only [Act.put, pzz]
        refine wpAnyH_ready (rs := [20]) (by kernel_rfl) (by simp) ?_
        refine AllReadyH.cons (o := { dst := none, op := .store 98 (.tmp 51) (.tmp 49), type := 0, pos := "packet.go:43", after := #[⟨19, .data⟩, ⟨17, .data⟩, ⟨17, .chain⟩, ⟨0, .phase⟩, ⟨1, .phase⟩, ⟨2, .phase⟩, ⟨3, .phase⟩, ⟨4, .phase⟩, ⟨5, .phase⟩, ⟨6, .phase⟩, ⟨7, .phase⟩, ⟨8, .phase⟩, ⟨9, .phase⟩, ⟨10, .phase⟩, ⟨11, .phase⟩, ⟨12, .phase⟩, ⟨13, .phase⟩, ⟨14, .phase⟩, ⟨15, .phase⟩, ⟨16, .phase⟩, ⟨17, .phase⟩], guard := none }) rfl (fun K hK => ?step37) ?more37
        case more37 => exact AllReadyH.nil
        ((go_simp; go_wp2_with fail))
        refine hK.out _ _ ?hS37 (fun hHeld => ?rr37)
        case hS37 => (exact HCE.out _ ((HT6.out.mono (fun k _ e => .inr e)).setCell ⟨b, 1, none⟩ (fun _ => .inl HRB.out) _))
        clear hK K
        try simp only [Act.put, pzz]
        refine wpAnyH_done (by kernel_rfl) ?_ _
        clear hHeld
        dsimp only [onlyN]
        go_wp2_with fail
        refine (HCD.out _ HNP.out).mono ?_
        rintro e w7 ⟨rfl, hb7⟩
        have HF7 := Lib.hid (HNP.out.after hb7)
        clear hb7
        go_wp2_with fail
        go_ret
        exact ⟨rfl, HF7.out⟩
      · clear k0
        refine AllReadyH.cons (o := { dst := some 48, op := .buildSlice 98 1 #[(0, .tmp 47)], type := 98, pos := "packet.go:43", after := #[⟨15, .data⟩], guard := none }) rfl (fun K hK => ?step38) ?more38
        case more38 => exact AllReadyH.nil
        ((go_simp; go_wp2_with fail))
        refine hK.out _ _ ?hS38 (fun hHeld => ?rr38)
        case hS38 => (exact HCE.out _ (.of_below HW5.out.2))
        clear hK K
        try simp only [Act.put, pzz]
        have k0 := HCB.out _ HW5.out.2
        refine wpAnyH_ready (rs := [4]) (by kernel_rfl) (by simp) ?_
        refine AllReadyH.cons (o := { dst := some 36, op := .load 98 (.tmp 35), type := 98, pos := "packet.go:43", after := #[⟨3, .data⟩], guard := none }) rfl (fun K hK => ?step39) ?more39
        case more39 => exact AllReadyH.nil
        ((go_simp; go_wp2_with fail))
        refine hK.out _ _ ?hS39 (fun hHeld => ?rr39)
        case hS39 => (exact HCE.out _ (.of_below HW5.out.2))
        clear hK K
        try simp only [Act.put, pzz]
        clear k0
        refine wpAnyH_ready (rs := [17]) (by kernel_rfl) (by simp) ?_
        refine AllReadyH.cons (o := { dst := some 49, op := .call { callee := .builtin .append, args := #[.tmp 36, .tmp 48], argTypes := #[98, 98] }, type := 98, pos := "packet.go:43", after := #[⟨4, .data⟩, ⟨16, .data⟩, ⟨9, .chain⟩], guard := none }) rfl (fun K hK => ?step40) ?more40
        case more40 => exact AllReadyH.nil
        (refine nstep_app_run hr6 rfl (.tmp 36) (.tmp 48) rfl rfl rfl ?_)
        refine hK.out _ _ ?hS40 (fun hHeld => ?rr40)
        case hS40 => (exact HCE.out _ (HT6.out.mono (fun k _ e => .inr e)))
        clear hK K
        try simp only [Act.put, pzz]
        refine tkH (i := 18) (oi := { dst := some 50, op := .nilCheck (.tmp 32), type := 0, pos := "packet.go:43", after := #[⟨0, .data⟩, ⟨0, .phase⟩, ⟨1, .phase⟩, ⟨2, .phase⟩, ⟨3, .phase⟩, ⟨4, .phase⟩, ⟨5, .phase⟩, ⟨6, .phase⟩, ⟨7, .phase⟩, ⟨8, .phase⟩, ⟨9, .phase⟩, ⟨10, .phase⟩, ⟨11, .phase⟩, ⟨12, .phase⟩, ⟨13, .phase⟩, ⟨14, .phase⟩, ⟨15, .phase⟩, ⟨16, .phase⟩, ⟨17, .phase⟩], guard := none }) (v := ?vv41) ?hy41 ?rest41
        case hy41 => (refine Or.inl ⟨by rfl, ?_⟩; intro W hSw; (try dsimp only at hSw); go_simp; (try with_reducible rfl))
        try simp only [Act.put, pzz]
        refine tkH (i := 19) (oi := { dst := some 51, op := .fieldAddr 100 (.tmp 50) 1, type := 0, pos := "packet.go:43", after := #[⟨18, .data⟩, ⟨0, .phase⟩, ⟨1, .phase⟩, ⟨2, .phase⟩, ⟨3, .phase⟩, ⟨4, .phase⟩, ⟨5, .phase⟩, ⟨6, .phase⟩, ⟨7, .phase⟩, ⟨8, .phase⟩, ⟨9, .phase⟩, ⟨10, .phase⟩, ⟨11, .phase⟩, ⟨12, .phase⟩, ⟨13, .phase⟩, ⟨14, .phase⟩, ⟨15, .phase⟩, ⟨16, .phase⟩, ⟨17, .phase⟩], guard := none }) (v := ?vv42) ?hy42 ?rest42
        case hy42 => (refine Or.inl ⟨by rfl, ?_⟩; intro W hSw; (try dsimp only at hSw); go_simp; (try with_reducible rfl))
        try simp only [Act.put, pzz]
        refine wpAnyH_ready (rs := [20]) (by kernel_rfl) (by simp) ?_
        refine AllReadyH.cons (o := { dst := none, op := .store 98 (.tmp 51) (.tmp 49), type := 0, pos := "packet.go:43", after := #[⟨19, .data⟩, ⟨17, .data⟩, ⟨17, .chain⟩, ⟨0, .phase⟩, ⟨1, .phase⟩, ⟨2, .phase⟩, ⟨3, .phase⟩, ⟨4, .phase⟩, ⟨5, .phase⟩, ⟨6, .phase⟩, ⟨7, .phase⟩, ⟨8, .phase⟩, ⟨9, .phase⟩, ⟨10, .phase⟩, ⟨11, .phase⟩, ⟨12, .phase⟩, ⟨13, .phase⟩, ⟨14, .phase⟩, ⟨15, .phase⟩, ⟨16, .phase⟩, ⟨17, .phase⟩], guard := none }) rfl (fun K hK => ?step43) ?more43
        case more43 => exact AllReadyH.nil
        ((go_simp; go_wp2_with fail))
        refine hK.out _ _ ?hS43 (fun hHeld => ?rr43)
        case hS43 => (exact HCE.out _ ((HT6.out.mono (fun k _ e => .inr e)).setCell ⟨b, 1, none⟩ (fun _ => .inl HRB.out) _))
        clear hK K
        try simp only [Act.put, pzz]
        refine wpAnyH_done (by kernel_rfl) ?_ _
        clear hHeld
        dsimp only [onlyN]
        go_wp2_with fail
        refine (HCD.out _ HNP.out).mono ?_
        rintro e w7 ⟨rfl, hb7⟩
        have HF7 := Lib.hid (HNP.out.after hb7)
        clear hb7
        go_wp2_with fail
        go_ret
        exact ⟨rfl, HF7.out⟩
end
end Go.Proofs.YtmbonngjkgcijaaGreatDoor

namespace Go.Proofs.YtmbonngjkgcijaaGreatDoor
open Go.RowKit Go.Shelf
/-- A net made since w0, no site cut off; F: blocks that are none of its. -/
def NR (w0 W : World) (b : Nat) (most : Int) (P : List P3) (F : Nat → Prop) : Prop :=
  ∃ v ro L mp c, NetAt W b most v L mp [] c ro ∧ L.map Pk.p = P ∧ (∀ k, ro k ≠ 0 → w0.heap.size ≤ k ∧ ¬ F k) ∧ Below w0.heap.size w0 W ∧ ∀ k, F k → k < W.heap.size
section
variable {w0 w : World} {b : Nat} {most : Int} {P : List P3} {F : Nat → Prop}
/-- What a call of the net leaves: the same net with other packets; what is not its stays. -/
def NRP (w0 w : World) (b : Nat) (most : Int) (P : List P3) (F : Nat → Prop) (w' : World) : Prop := NR w0 w' b most P F ∧ Touch (fun k => w0.heap.size ≤ k ∧ ¬ F k) w w'
theorem NR.below (h : NR w0 w b most P F) {W : World} (hb : Below w.heap.size w W) : NR w0 W b most P F := by
  obtain ⟨v, ro, L, mp, c, h1, h2, h3, h4, h5⟩ := h
  exact ⟨v, ro, L, mp, c, h1.below hb, h2, h3, h4.trans (hb.mono h4.size), fun k hk => Nat.lt_of_lt_of_le (h5 k hk) hb.size⟩
theorem NR.pbelow (h : NR w0 w b most P F) {W : World} (hb : Below w.heap.size w W) : NRP w0 w b most P F W := ⟨h.below hb, .of_below hb⟩
theorem NR.bel (h : NR w0 w b most P F) : Below w0.heap.size w0 w := by
  obtain ⟨_, _, _, _, _, _, _, _, h4, _⟩ := h
  exact h4
theorem NR.next {v : Value} {ro : Nat → Nat} {L : List Pk} {mp c : Nat} (h1 : NetAt w b most v L mp [] c ro) (h3 : ∀ k, ro k ≠ 0 → w0.heap.size ≤ k ∧ ¬ F k) (h4 : Below w0.heap.size w0 w) (h5 : ∀ k, F k → k < w.heap.size) {P' : List P3} {W : World} (hp : NetP w b most mp [] c ro P' W) : NRP w0 w b most P' F W := by
  obtain ⟨v', ro', L', q1, q2, q3⟩ := hp
  have hT : Touch (fun k => w0.heap.size ≤ k ∧ ¬ F k) w W := q2.1.mono (fun k _ e => h3 k e)
  refine ⟨⟨v', ro', L', mp, c, q1, q3, fun k hk => ?_, h4.trans (hT.below (fun i e => e.1) h4.size), fun k hk => Nat.lt_of_lt_of_le (h5 k hk) hT.size⟩, hT⟩
  by_cases hlt : k < w.heap.size
  · rw [q2.2 k hlt] at hk; exact h3 k hk
  · exact ⟨Nat.le_trans h4.size (Nat.le_of_not_lt hlt), fun e => hlt (h5 k e)⟩
theorem NR.add (h : NR w0 w b most P F) {W : World} (hb : Below w.heap.size w W) : NR w0 W b most P (fun k => F k ∨ (w.heap.size ≤ k ∧ k < W.heap.size)) := by
  obtain ⟨v, ro, L, mp, c, h1, h2, h3, h4, h5⟩ := h
  refine ⟨v, ro, L, mp, c, h1.below hb, h2, fun k hk => ⟨(h3 k hk).1, fun e => ?_⟩, h4.trans (hb.mono h4.size), fun k hk => ?_⟩
  · rcases e with e | e
    · exact (h3 k hk).2 e
    · have := h1.lt k hk; omega
  · rcases hk with e | e
    · exact Nat.lt_of_lt_of_le (h5 k e) hb.size
    · exact e.2
theorem get_p {L : List Pk} {i : Nat} {p : P3} (h : (L.map Pk.p)[i]? = some p) : ∃ x, L[i]? = some x ∧ x.p = p := by
  rw [List.getElem?_map] at h
  cases hx : L[i]? with
  | none => rw [hx] at h; cases h
  | some x => rw [hx] at h; exact ⟨x, rfl, Option.some.inj h⟩
theorem old_errT {ro : Nat → Nat} (hG : Glob w0) (h3 : ∀ k, ro k ≠ 0 → w0.heap.size ≤ k ∧ ¬ F k) : ro 1 = 0 := by
  by_cases e : ro 1 = 0
  · exact e
  · have := (h3 _ e).1; have := hG.lt; omega
theorem old_moved {ro : Nat → Nat} (hM : Mov w0) (h3 : ∀ k, ro k ≠ 0 → w0.heap.size ≤ k ∧ ¬ F k) : ro 0 = 0 := by
  by_cases e : ro 0 = 0
  · exact e
  · have := (h3 _ e).1; have := hM.lt; omega
theorem nr_new {most : Int} (h1 : 1 ≤ most) (h2 : most ≤ 1024) : Calls Tryz.prog 11 #[.int .i64 most] w fun e w' => ∃ b, e = .returned (.tuple #[.pointer (some ⟨b, 0, none⟩), .int .i64 0]) ∧ NR w w' b most [] (fun _ => False) := by
  refine (nnew_ok h1 h2).mono ?_
  rintro e w' ⟨b, mp, ro, rfl, hn, hr, hb⟩
  exact ⟨b, rfl, _, ro, [], mp, 0, hn, rfl, fun k hk => ⟨hr k hk, fun e => e⟩, hb, fun k e => e.elim⟩
theorem nr_len (h : NR w0 w b most P F) : Calls Tryz.prog 16 #[.pointer (some ⟨b, 0, none⟩)] w fun e w' => e = .returned (.int .i64 P.length) ∧ w' = w := by
  obtain ⟨v, ro, L, mp, c, h1, rfl, h3, h4, h5⟩ := h
  rw [List.length_map]
  exact nlen_any h1
theorem nr_twice (hG : Glob w0) (h : NR w0 w b most P F) (hm : most ≤ 1024) {i : Nat} {p : P3} (hi : P[i]? = some p) (hl : (P.length : Int) < most) : Calls Tryz.prog 26 #[.pointer (some ⟨b, 0, none⟩), .int .i64 i] w fun e w' => e = .returned (.int .i64 0) ∧ NRP w0 w b most (P ++ [(p.1, p.2.1, 0)]) F w' := by
  obtain ⟨v, ro, L, mp, c, h1, rfl, h3, h4, h5⟩ := h
  obtain ⟨x, hx, rfl⟩ := get_p hi
  rw [List.length_map] at hl
  refine (nTwice_ok (hG.below h4) (old_errT hG h3) h1 hm hx hl).mono ?_
  rintro e w' ⟨rfl, hp⟩
  exact ⟨rfl, NR.next h1 h3 h4 h5 hp⟩
theorem nr_drop (hG : Glob w0) (h : NR w0 w b most P F) {i : Nat} (hi : i < P.length) : Calls Tryz.prog 25 #[.pointer (some ⟨b, 0, none⟩), .int .i64 i] w fun e w' => e = .returned (.int .i64 0) ∧ NRP w0 w b most (P.eraseIdx i) F w' := by
  obtain ⟨v, ro, L, mp, c, h1, rfl, h3, h4, h5⟩ := h
  rw [List.length_map] at hi
  refine (nDrop_ok (hG.below h4) (old_errT hG h3) h1 hi).mono ?_
  rintro e w' ⟨rfl, hp⟩
  exact ⟨rfl, NR.next h1 h3 h4 h5 hp⟩
theorem nr_hold (hG : Glob w0) (h : NR w0 w b most P F) {i : Nat} {p : P3} (hi : P[i]? = some p) {k : Int} (hk : 0 ≤ k ∧ k ≤ 1000) : Calls Tryz.prog 28 #[.pointer (some ⟨b, 0, none⟩), .int .i64 i, .int .i64 k] w fun e w' => e = .returned (.int .i64 0) ∧ NRP w0 w b most (P.set i (p.1, p.2.1, k)) F w' := by
  obtain ⟨v, ro, L, mp, c, h1, rfl, h3, h4, h5⟩ := h
  obtain ⟨x, hx, rfl⟩ := get_p hi
  refine (nHold_ok (hG.below h4) (old_errT hG h3) h1 hx hk).mono ?_
  rintro e w' ⟨rfl, hp⟩
  exact ⟨rfl, NR.next h1 h3 h4 h5 hp⟩
theorem nr_move (hG : Glob w0) (h : NR w0 w b most P F) {i k : Nat} {p : P3} (hi : P[i]? = some p) (hk : k < P.length) : Calls Tryz.prog 27 #[.pointer (some ⟨b, 0, none⟩), .int .i64 i, .int .i64 k] w fun e w' => e = .returned (.int .i64 0) ∧ NRP w0 w b most ((P.eraseIdx i).insertIdx k p) F w' := by
  obtain ⟨v, ro, L, mp, c, h1, rfl, h3, h4, h5⟩ := h
  obtain ⟨x, hx, rfl⟩ := get_p hi
  rw [List.length_map] at hk
  refine (nMove_ok (hG.below h4) (old_errT hG h3) h1 hx hk).mono ?_
  rintro e w' ⟨rfl, hp⟩
  exact ⟨rfl, NR.next h1 h3 h4 h5 hp⟩
theorem nr_tick (h : NR w0 w b most P F) (hw : ∀ p ∈ P, 0 ≤ p.2.2 ∧ p.2.2 ≤ 1000) : Calls Tryz.prog 30 #[.pointer (some ⟨b, 0, none⟩)] w fun e w' => e = .returned (.tuple #[]) ∧ NRP w0 w b most (P.map tickP) F w' := by
  obtain ⟨v, ro, L, mp, c, h1, rfl, h3, h4, h5⟩ := h
  refine (nTick_any h1 (fun e he => hw _ (List.mem_map_of_mem he))).mono ?_
  rintro e w' ⟨rfl, hp⟩
  exact ⟨rfl, NR.next h1 h3 h4 h5 hp⟩
theorem nr_busy (hG : Glob w0) (h : NR w0 w b most P F) {i : Nat} {p : P3} (hi : P[i]? = some p) (hw : 0 < p.2.2) : Calls Tryz.prog 22 #[.pointer (some ⟨b, 0, none⟩), .int .i64 i] w fun e w' => e = .returned (.tuple #[zeroM, .int .i64 20]) ∧ NRP w0 w b most P F w' := by
  have h' := h
  obtain ⟨v, ro, L, mp, c, h1, rfl, h3, h4, h5⟩ := h
  obtain ⟨x, hx, rfl⟩ := get_p hi
  refine (nDeliver_busy (hG.below h4) h1 hx hw).mono ?_
  rintro e w' ⟨rfl, hb⟩
  exact ⟨rfl, h'.pbelow hb⟩
theorem nr_deliver (hG : Glob w0) (hM : Mov w0) (h : NR w0 w b most P F) {i : Nat} {p : P3} (hi : P[i]? = some p) (hw : p.2.2 = 0) (hs : -9223372036854775808 ≤ p.2.1 ∧ p.2.1 ≤ 9223372036854775807) : Calls Tryz.prog 22 #[.pointer (some ⟨b, 0, none⟩), .int .i64 i] w fun e w' => NRP w0 w b most (P.eraseIdx i) F w' ∧ ((decM p.1 = none ∧ e = .returned (.tuple #[zeroM, .int .i64 6])) ∨ ∃ m v, decM p.1 = some m ∧ e = .returned (.tuple #[v, .int .i64 0]) ∧ MsgIs w' v m) := by
  obtain ⟨v, ro, L, mp, c, h1, rfl, h3, h4, h5⟩ := h
  obtain ⟨x, hx, rfl⟩ := get_p hi
  refine (nDeliver_ok (hG.below h4) (hM.below h4) ⟨old_errT hG h3, old_moved hM h3⟩ h1 hx hw hs (fun e he => by cases he)).mono ?_
  rintro e w' ⟨hp, hc⟩
  exact ⟨NR.next h1 h3 h4 h5 hp, hc⟩
/-- Send of messages that lie in a row; they stay while the net changes. -/
theorem nr_send (hG : Glob w0) (hM : Mov w0) (h : NR w0 w b most P F) (hm : most ≤ 1024) {g cap : Nat} {ms : List MsgV} (hle : ms.length ≤ cap) (hlen : ms.length ≤ 1000)
    (hms : ∀ (i : Nat) (m : MsgV), ms[i]? = some m → SendOk [] m ∧ ∃ tA tc oA oc, ∀ W, Touch (fun k => w0.heap.size ≤ k ∧ ¬ F k) w W → M11 W ⟨g, i * 11, none⟩ m tA tc oA oc ∧ MsgIs W (.agg (msgCells m tA tc oA oc)) m) :
    Calls Tryz.prog 18 #[.pointer (some ⟨b, 0, none⟩), .slice (some ⟨g, 0, none⟩) ms.length cap] w fun e w' => e = .returned (.int .i64 (((ms.foldl (sendL most) P).length : Int) - (P.length : Int))) ∧ NRP w0 w b most (ms.foldl (sendL most) P) F w' := by
  obtain ⟨v, ro, L, mp, c, h1, rfl, h3, h4, h5⟩ := h
  refine (nSend_any (hG.below h4) (hM.below h4) ⟨old_errT hG h3, old_moved hM h3⟩ h1 hm hle hlen (fun i m hi => ?_)).mono ?_
  · obtain ⟨q1, tA, tc, oA, oc, q2⟩ := hms i m hi
    exact ⟨q1, tA, tc, oA, oc, fun W ro' hs => q2 W (hs.1.mono (fun k _ e => h3 k e))⟩
  · rintro e w' ⟨P', rfl, hp, rfl⟩
    rw [List.length_map]
    exact ⟨rfl, NR.next h1 h3 h4 h5 hp⟩
end
/-- A message of the example. -/
def keptM (g s : Int) : MsgV := ⟨13, s, 0, g, 0, 0, 0, 0, 0, [], []⟩
theorem keptM_is (W : World) (g s : Int) : MsgIs W (.agg #[.int .i64 13, .int .i64 s, .int .i64 0, .int .i64 g, .int .i64 0, .int .i64 0, .int .i64 0, .int .i64 0, .int .i64 0, .slice none 0 0, .slice none 0 0]) (keptM g s) := ⟨none, 0, none, 0, rfl, NumsAt.nil _, OpsAt.nil _, fun o h => by cases h⟩
theorem keptM_in (g s : Int) : MsgIn (keptM g s) := ⟨fun x h => (by cases h), fun o h => (by cases h)⟩
theorem keptM_may : mayM (keptM 1 1) = true ∧ mayM (keptM 2 2) = true := by decide +kernel
set_option maxRecDepth 100000 in
theorem kept_any {w : World} (g s : Int) : Calls Tryz.prog 31 #[.int .i64 g, .int .i64 s] w fun e w' => e = .returned (.agg #[.int .i64 13, .int .i64 s, .int .i64 0, .int .i64 g, .int .i64 0, .int .i64 0, .int .i64 0, .int .i64 0, .int .i64 0, .slice none 0 0, .slice none 0 0]) ∧ Below w.heap.size w w' := by
  go_enter Tryz.func31, Tryz.ntmps31
  go_wp2_with fail
  exact bodyPost_ret (v := .agg #[.int .i64 13, .int .i64 s, .int .i64 0, .int .i64 g, .int .i64 0, .int .i64 0, .int .i64 0, .int .i64 0, .int .i64 0, .slice none 0 0, .slice none 0 0]) (by simp [results, Tryz.results31, go_sem]) rfl ⟨rfl, below_new _⟩
end Go.Proofs.YtmbonngjkgcijaaGreatDoor
