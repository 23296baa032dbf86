/- The document's own net in memory: Send. The document's own reader of bytes: nat. -/
import Derived.Test.YtmbonngjkgcijaaGreatDoorZNetP
import Derived.Test.YtmbonngjkgcijaaGreatDoorZRcsA
import Derived.Test.YtmbonngjkgcijaaGreatDoorZOmwB
set_option linter.unusedSimpArgs false
set_option linter.unusedVariables false
set_option linter.unnecessarySimpa false
namespace Go.Proofs.YtmbonngjkgcijaaGreatDoor
open Go.RowKit Go.Shelf
theorem site_sum {m : MsgV} (h : mayM m = true) : IntKind.i64.wrap (m.fr + m.tt) = siteM m ∧ 1 ≤ siteM m ∧ siteM m ≤ 3 := by
  have F := mayM_fits h
  have h1 := F.fr
  have h2 := F.tt
  have hw : IntKind.i64.wrap (m.fr + m.tt) = m.fr + m.tt := IntWalk.i64_in _ (by omega)
  unfold mayM at h
  simp only [Bool.and_eq_true] at h
  obtain ⟨_, hf, ht, _⟩ := h
  rw [hw]
  unfold siteM
  cases hl : lowM m.kd with
  | true =>
    rw [hl] at hf ht
    simp [fitP] at hf ht
    omega
  | false =>
    rw [hl] at hf ht
    simp [fitP] at hf ht
    omega
section
variable {w : World} {r : Nat} {v : Value} {most : Int} {ct : Nat → Bool}
/-- What Send leaves of the document's net: one packet more, whose bytes lie in blocks made since. -/
def RSend (w : World) (r : Nat) (most : Int) (L : List RP) (ct : Nat → Bool) (m : MsgV) (w' : World) : Prop := ∃ A cap, OwnBy w' w.heap.size (.slice A (encM m).length cap) (encM m) ∧ RPost w r most (L ++ [⟨encM m, siteM m, 0, A, cap⟩]) ct w'
/-- What Send answers and leaves where the message may be. -/
def RSendAns (w : World) (r : Nat) (most : Int) (L : List RP) (cs : Bool) (ct : Nat → Bool) (m : MsgV) (e : Ending) (w' : World) : Prop :=
  ((cs = true ∨ most ≤ (L.length : Int)) ∧ e = .returned (.bool false) ∧ Below w.heap.size w w') ∨ (cs = false ∧ (L.length : Int) < most ∧ e = .returned (.bool true) ∧ RSend w r most L ct m w')
set_option maxRecDepth 100000 in
set_option maxHeartbeats 4000000 in
theorem rnsend_not {L : List RP} (h : RNt w r v most L ct) {m : MsgV} {tA oA : Option Addr} {tc oc : Nat} (hm : MsgIs w (.agg (cellM m tA tc oA oc)) m) (hti : m.ti ≤ 9223372036854775807) (ha : mayM m = false) :
    Calls Tryz.prog 49 #[.pointer (some ⟨r, 0, none⟩), .agg (cellM m tA tc oA oc)] w fun e w' => e = .returned (.bool false) ∧ Below w.heap.size w w' := by
  have hb0 := below_new (w := w) (.cells (cellM m tA tc oA oc) 37)
  have hat0 := alloc_at w (.cells (cellM m tA tc oA oc) 37)
  obtain ⟨W0, hW0⟩ : ∃ W, W = w.alloc (.cells (cellM m tA tc oA oc) 37) := ⟨_, rfl⟩
  rw [← hW0] at hb0 hat0
  have HEN := Lib.hid (rEncode_not (hm.below hb0) hti ha)
  have HW0 := Lib.hid hW0
  have HA0 := Lib.hid (And.intro hat0 hb0)
  clear h hm hti ha hb0 hat0 hW0
  go_enter Tryz.func49, Tryz.ntmps49
  go_upto_region 1 with fail
  change Code.wp _ _ _ _ (World.alloc w (.cells (cellM m tA tc oA oc) 37))
  rw [← HW0.out]
  have d0 := cell_of HA0.out.1 0; have d1 := cell_of HA0.out.1 1; have d2 := cell_of HA0.out.1 2; have d3 := cell_of HA0.out.1 3; have d4 := cell_of HA0.out.1 4; have d5 := cell_of HA0.out.1 5; have d6 := cell_of HA0.out.1 6; have d7 := cell_of HA0.out.1 7; have d8 := cell_of HA0.out.1 8; have d9 := cell_of HA0.out.1 9; have d10 := cell_of HA0.out.1 10
  simp at d0 d1 d2 d3 d4 d5 d6 d7 d8 d9 d10
  go_wp2_with fail
  refine (HEN.out).mono ?_
  rintro e w1 ⟨rfl, hb1⟩
  have hat1 := (hb1.block _ (heap_lt HA0.out.1)).trans HA0.out.1
  have HB1 := Lib.hid (HA0.out.2.trans (hb1.mono HA0.out.2.size))
  clear d0 d1 d2 d3 d4 d5 d6 d7 d8 d9 d10 hb1
  have c1 := cell_of hat1 1; have c2 := cell_of hat1 2
  simp at c1 c2
  clear hat1
  go_upto_region 3 with fail
  refine wp_only ?_
  refine wp_region_held_drew (S := fun _ => True) (by kernel_rfl) trivial (fun hHeld => ?_)
  refine tkH (i := 0) (oi := { dst := some 14, op := .move (.tmp 5), type := 54, pos := "ref.go:27", after := #[], guard := none }) (v := ?vv1) ?hy1 ?rest1
  case hy1 => (refine Or.inl ⟨by rfl, ?_⟩; intro W hSw; (try dsimp only at hSw); go_simp; (try with_reducible rfl))
  try simp only [Act.put, pzz]
  refine tkH (i := 1) (oi := { dst := some 15, op := .call { callee := .builtin .len, args := #[.tmp 14], argTypes := #[54] }, type := 3, pos := "ref.go:27", after := #[⟨0, .data⟩], guard := none }) (v := ?vv2) ?hy2 ?rest2
  case hy2 => (refine Or.inl ⟨by rfl, ?_⟩; intro W hSw; (try dsimp only at hSw); go_simp; (try with_reducible rfl))
  try simp only [Act.put, pzz]
  refine tkH (i := 2) (oi := { dst := some 16, op := .binOp .eql 3 (.tmp 15) (.const (.int .i64 0)) 3, type := 4, pos := "ref.go:27", after := #[⟨1, .data⟩], guard := none }) (v := ?vv3) ?hy3 ?rest3
  case hy3 => (refine Or.inl ⟨by rfl, ?_⟩; intro W hSw; (try dsimp only at hSw); go_simp; (try with_reducible rfl))
  try simp only [Act.put, pzz]
  refine tkH (i := 3) (oi := { dst := some 17, op := .move (.tmp 16), type := 4, pos := "ref.go:27", after := #[⟨2, .data⟩], guard := none }) (v := ?vv4) ?hy4 ?rest4
  case hy4 => (refine Or.inl ⟨by rfl, ?_⟩; intro W hSw; (try dsimp only at hSw); go_simp; (try with_reducible rfl))
  try simp only [Act.put, pzz]
  refine tkH (i := 4) (oi := { dst := some 18, op := .move (.tmp 0), type := 28, pos := "ref.go:27", after := #[⟨3, .guard⟩], guard := some (3, false) }) (v := undef) ?hy5 ?rest5
  case hy5 => (exact Or.inr ⟨by rfl, rfl⟩)
  try simp only [Act.put, pzz]
  refine tkH (i := 5) (oi := { dst := some 19, op := .move (.tmp 6), type := 3, pos := "ref.go:27", after := #[⟨3, .guard⟩], guard := some (3, false) }) (v := undef) ?hy6 ?rest6
  case hy6 => (exact Or.inr ⟨by rfl, rfl⟩)
  try simp only [Act.put, pzz]
  refine tkH (i := 6) (oi := { dst := some 20, op := .nilCheck (.tmp 18), type := 0, pos := "ref.go:27", after := #[⟨4, .data⟩, ⟨3, .guard⟩], guard := some (3, false) }) (v := undef) ?hy7 ?rest7
  case hy7 => (exact Or.inr ⟨by rfl, rfl⟩)
  try simp only [Act.put, pzz]
  refine tkH (i := 7) (oi := { dst := some 21, op := .fieldAddr 32 (.tmp 20) 2, type := 0, pos := "ref.go:27", after := #[⟨6, .data⟩, ⟨3, .guard⟩], guard := some (3, false) }) (v := undef) ?hy8 ?rest8
  case hy8 => (exact Or.inr ⟨by rfl, rfl⟩)
  try simp only [Act.put, pzz]
  refine tkH (i := 8) (oi := { dst := some 22, op := .indexAddr 30 (.tmp 21) (.tmp 19), type := 0, pos := "ref.go:27", after := #[⟨7, .data⟩, ⟨5, .data⟩, ⟨3, .guard⟩], guard := some (3, false) }) (v := undef) ?hy9 ?rest9
  case hy9 => (exact Or.inr ⟨by rfl, rfl⟩)
  try simp only [Act.put, pzz]
  refine tkH (i := 9) (oi := { dst := some 23, op := .load 4 (.tmp 22), type := 4, pos := "ref.go:27", after := #[⟨8, .data⟩, ⟨3, .guard⟩], guard := some (3, false) }) (v := undef) ?hy10 ?rest10
  case hy10 => (exact Or.inr ⟨by rfl, rfl⟩)
  try simp only [Act.put, pzz]
  refine tkH (i := 10) (oi := { dst := some 24, op := .pick (.tmp 17) (.const (.bool true)) (.tmp 23), type := 4, pos := "ref.go:27", after := #[⟨3, .data⟩, ⟨9, .data⟩], guard := none }) (v := ?vv11) ?hy11 ?rest11
  case hy11 => (refine Or.inl ⟨by rfl, ?_⟩; intro W hSw; (try dsimp only at hSw); go_simp; (try with_reducible rfl))
  try simp only [Act.put, pzz]
  refine tkH (i := 11) (oi := { dst := some 25, op := .move (.tmp 24), type := 4, pos := "ref.go:27", after := #[⟨10, .data⟩, ⟨3, .chain⟩], guard := none }) (v := ?vv12) ?hy12 ?rest12
  case hy12 => (refine Or.inl ⟨by rfl, ?_⟩; intro W hSw; (try dsimp only at hSw); go_simp; (try with_reducible rfl))
  try simp only [Act.put, pzz]
  refine tkH (i := 12) (oi := { dst := some 26, op := .move (.tmp 0), type := 28, pos := "ref.go:27", after := #[⟨11, .guard⟩], guard := some (11, false) }) (v := undef) ?hy13 ?rest13
  case hy13 => (exact Or.inr ⟨by rfl, rfl⟩)
  try simp only [Act.put, pzz]
  refine tkH (i := 13) (oi := { dst := some 27, op := .nilCheck (.tmp 26), type := 0, pos := "ref.go:27", after := #[⟨12, .data⟩, ⟨11, .guard⟩], guard := some (11, false) }) (v := undef) ?hy14 ?rest14
  case hy14 => (exact Or.inr ⟨by rfl, rfl⟩)
  try simp only [Act.put, pzz]
  refine tkH (i := 14) (oi := { dst := some 28, op := .fieldAddr 32 (.tmp 27) 1, type := 0, pos := "ref.go:27", after := #[⟨13, .data⟩, ⟨11, .guard⟩], guard := some (11, false) }) (v := undef) ?hy15 ?rest15
  case hy15 => (exact Or.inr ⟨by rfl, rfl⟩)
  try simp only [Act.put, pzz]
  refine tkH (i := 15) (oi := { dst := some 29, op := .load 29 (.tmp 28), type := 29, pos := "ref.go:27", after := #[⟨14, .data⟩, ⟨11, .guard⟩], guard := some (11, false) }) (v := undef) ?hy16 ?rest16
  case hy16 => (exact Or.inr ⟨by rfl, rfl⟩)
  try simp only [Act.put, pzz]
  refine tkH (i := 16) (oi := { dst := some 30, op := .call { callee := .builtin .len, args := #[.tmp 29], argTypes := #[29] }, type := 3, pos := "ref.go:27", after := #[⟨15, .data⟩, ⟨11, .guard⟩], guard := some (11, false) }) (v := undef) ?hy17 ?rest17
  case hy17 => (exact Or.inr ⟨by rfl, rfl⟩)
  try simp only [Act.put, pzz]
  refine tkH (i := 17) (oi := { dst := some 31, op := .move (.tmp 0), type := 28, pos := "ref.go:27", after := #[⟨11, .guard⟩], guard := some (11, false) }) (v := undef) ?hy18 ?rest18
  case hy18 => (exact Or.inr ⟨by rfl, rfl⟩)
  try simp only [Act.put, pzz]
  refine tkH (i := 18) (oi := { dst := some 32, op := .nilCheck (.tmp 31), type := 0, pos := "ref.go:27", after := #[⟨17, .data⟩, ⟨11, .guard⟩], guard := some (11, false) }) (v := undef) ?hy19 ?rest19
  case hy19 => (exact Or.inr ⟨by rfl, rfl⟩)
  try simp only [Act.put, pzz]
  refine tkH (i := 19) (oi := { dst := some 33, op := .fieldAddr 32 (.tmp 32) 0, type := 0, pos := "ref.go:27", after := #[⟨18, .data⟩, ⟨11, .guard⟩], guard := some (11, false) }) (v := undef) ?hy20 ?rest20
  case hy20 => (exact Or.inr ⟨by rfl, rfl⟩)
  try simp only [Act.put, pzz]
  refine tkH (i := 20) (oi := { dst := some 34, op := .load 3 (.tmp 33), type := 3, pos := "ref.go:27", after := #[⟨19, .data⟩, ⟨11, .guard⟩], guard := some (11, false) }) (v := undef) ?hy21 ?rest21
  case hy21 => (exact Or.inr ⟨by rfl, rfl⟩)
  try simp only [Act.put, pzz]
  refine tkH (i := 21) (oi := { dst := some 35, op := .binOp .geq 3 (.tmp 30) (.tmp 34) 3, type := 4, pos := "ref.go:27", after := #[⟨16, .data⟩, ⟨20, .data⟩, ⟨11, .guard⟩], guard := some (11, false) }) (v := undef) ?hy22 ?rest22
  case hy22 => (exact Or.inr ⟨by rfl, rfl⟩)
  try simp only [Act.put, pzz]
  refine tkH (i := 22) (oi := { dst := some 36, op := .pick (.tmp 25) (.const (.bool true)) (.tmp 35), type := 4, pos := "ref.go:27", after := #[⟨11, .data⟩, ⟨21, .data⟩], guard := none }) (v := ?vv23) ?hy23 ?rest23
  case hy23 => (refine Or.inl ⟨by rfl, ?_⟩; intro W hSw; (try dsimp only at hSw); go_simp; (try with_reducible rfl))
  try simp only [Act.put, pzz]
  refine wpAnyH_done (by kernel_rfl) ?_ _
  clear hHeld
  dsimp only [onlyN]
  have HB2 := Lib.hid (below_drew HB1.out)
  go_wp2_with fail
  go_ret
  exact ⟨rfl, HB2.out⟩
set_option maxRecDepth 100000 in
set_option maxHeartbeats 4000000 in
theorem rnsend_yes {L : List RP} (h : RNt w r v most L ct) (hl : L.length ≤ 1000) {m : MsgV} {tA oA : Option Addr} {tc oc : Nat} (hm : MsgIs w (.agg (cellM m tA tc oA oc)) m) (hin : MsgIn m) (ha : mayM m = true) :
    Calls Tryz.prog 49 #[.pointer (some ⟨r, 0, none⟩), .agg (cellM m tA tc oA oc)] w (RSendAns w r most L (ct (siteM m).toNat) ct m) := by
  obtain ⟨hsum, hs1, hs3⟩ := site_sum ha
  have hb0 := below_new (w := w) (.cells (cellM m tA tc oA oc) 37)
  have hat0 := alloc_at w (.cells (cellM m tA tc oA oc) 37)
  obtain ⟨W0, hW0⟩ : ∃ W, W = w.alloc (.cells (cellM m tA tc oA oc) 37) := ⟨_, rfl⟩
  rw [← hW0] at hb0 hat0
  have HEN := Lib.hid (rEncode_yes (hm.below hb0) ha hin)
  have hne := encM_few ha hin
  obtain ⟨n, hn⟩ : ∃ n, (encM m).length = n := ⟨_, rfl⟩
  have hn0 : 0 < n := by
    rw [← hn]
    exact List.length_pos_iff.2 hne.1
  have HN := Lib.hid (And.intro hn hne)
  have HW0 := Lib.hid hW0
  have HA0 := Lib.hid (And.intro hat0 hb0)
  have HH := Lib.hid (And.intro h hl)
  obtain ⟨s, hs⟩ := Int.eq_ofNat_of_zero_le (a := siteM m) (by omega)
  rw [hs] at hsum hs1 hs3
  rw [hs, Int.toNat_natCast]
  have HSI := Lib.hid hs
  obtain ⟨vA, cp, hv, _⟩ := id (RowIs.form h.row)
  have HV := Lib.hid hv
  have HC : Hid (∀ W, Below w.heap.size w W → W.cell? ⟨r, 0, none⟩ = some (.int .i64 most) ∧ W.cell? ⟨r, 1, none⟩ = some (.slice vA L.length cp) ∧ W.cell? ⟨r, 2 + s, none⟩ = some (.bool (ct s))) := Lib.hid (fun W hW => by
    have e := (h.below hW).head
    refine ⟨cell_of e 0, (cell_of e 1).trans (congrArg some hv), ?_⟩
    match s, hs1, hs3 with
    | 1, _, _ => exact cell_of e 3
    | 2, _, _ => exact cell_of e 4
    | 3, _, _ => exact cell_of e 5)
  have q4 : (s : Int) < 4 := by omega
  have q5 : s < 4 := by omega
  obtain ⟨cs, hcs⟩ : ∃ b, ct s = b := ⟨_, rfl⟩
  have HCS := Lib.hid hcs
  rw [hcs] at HC
  rw [hcs]
  clear h hm hin ha hb0 hat0 hW0 hne hn hl hs hv hs1 hs3 hcs
  go_enter Tryz.func49, Tryz.ntmps49
  go_upto_region 1 with fail
  change Code.wp _ _ _ _ (World.alloc w (.cells (cellM m tA tc oA oc) 37))
  rw [← HW0.out]
  have d0 := cell_of HA0.out.1 0; have d1 := cell_of HA0.out.1 1; have d2 := cell_of HA0.out.1 2; have d3 := cell_of HA0.out.1 3; have d4 := cell_of HA0.out.1 4; have d5 := cell_of HA0.out.1 5; have d6 := cell_of HA0.out.1 6; have d7 := cell_of HA0.out.1 7; have d8 := cell_of HA0.out.1 8; have d9 := cell_of HA0.out.1 9; have d10 := cell_of HA0.out.1 10
  simp at d0 d1 d2 d3 d4 d5 d6 d7 d8 d9 d10
  go_wp2_with fail
  refine (HEN.out).mono ?_
  rintro e w1 ⟨v1, rfl, ho1, hb1⟩
  have hat1 := (hb1.block _ (heap_lt HA0.out.1)).trans HA0.out.1
  have HB1 := Lib.hid (HA0.out.2.trans (hb1.mono HA0.out.2.size))
  obtain ⟨g1, k1, rfl, hc1⟩ : ∃ g1 k1, v1 = .slice (some ⟨g1, 0, none⟩) n k1 ∧ OwnC w1 W0.heap.size g1 k1 (encM m) := by
    rcases ho1 with ⟨_, e⟩ | ⟨g1, k1, e, hc⟩
    · exact (HN.out.2.1 e).elim
    · exact ⟨g1, k1, by rw [e, HN.out.1], hc⟩
  have HC1 := Lib.hid hc1
  clear d0 d1 d2 d3 d4 d5 d6 d7 d8 d9 d10 hb1 ho1 hc1
  have c1 := cell_of hat1 1; have c2 := cell_of hat1 2
  simp at c1 c2
  clear hat1
  go_upto_region 3 with fail
  have hnz : ((n : Int) == 0) = false := by rw [beq_eq_false_iff_ne]; omega
  have hnz2 : (n == 0) = false := by rw [beq_eq_false_iff_ne]; omega
  have HNN := Lib.hid hn0
  refine wp_only ?_
  refine wp_region_held_drew (S := fun W => W.cell? ⟨r, 0, none⟩ = some (.int .i64 most) ∧ W.cell? ⟨r, 1, none⟩ = some (.slice vA L.length cp) ∧ W.cell? ⟨r, 2 + s, none⟩ = some (.bool cs)) (by kernel_rfl) (HC.out _ (below_drew HB1.out)) (fun hHeld => ?_)
  refine tkH (i := 0) (oi := { dst := some 14, op := .move (.tmp 5), type := 54, pos := "ref.go:27", after := #[], guard := none }) (v := ?vv24) ?hy24 ?rest24
  case hy24 => (refine Or.inl ⟨by rfl, ?_⟩; intro W hSw; (try dsimp only at hSw); go_simp; (try with_reducible rfl))
  try simp only [Act.put, pzz]
  refine tkH (i := 1) (oi := { dst := some 15, op := .call { callee := .builtin .len, args := #[.tmp 14], argTypes := #[54] }, type := 3, pos := "ref.go:27", after := #[⟨0, .data⟩], guard := none }) (v := ?vv25) ?hy25 ?rest25
  case hy25 => (refine Or.inl ⟨by rfl, ?_⟩; intro W hSw; (try dsimp only at hSw); go_simp; (try with_reducible rfl))
  try simp only [Act.put, pzz]
  refine tkH (i := 2) (oi := { dst := some 16, op := .binOp .eql 3 (.tmp 15) (.const (.int .i64 0)) 3, type := 4, pos := "ref.go:27", after := #[⟨1, .data⟩], guard := none }) (v := (.bool false)) ?hy26 ?rest26
  case hy26 => ((refine Or.inl ⟨by rfl, ?_⟩; intro W hSw; (try dsimp only at hSw); go_simp; (try exact hnz); (try simp [HNN.out]; try omega)))
  try simp only [Act.put, pzz]
  refine tkH (i := 3) (oi := { dst := some 17, op := .move (.tmp 16), type := 4, pos := "ref.go:27", after := #[⟨2, .data⟩], guard := none }) (v := ?vv27) ?hy27 ?rest27
  case hy27 => (refine Or.inl ⟨by rfl, ?_⟩; intro W hSw; (try dsimp only at hSw); go_simp; (try with_reducible rfl))
  try simp only [Act.put, pzz]
  refine tkH (i := 4) (oi := { dst := some 18, op := .move (.tmp 0), type := 28, pos := "ref.go:27", after := #[⟨3, .guard⟩], guard := some (3, false) }) (v := ?vv28) ?hy28 ?rest28
  case hy28 => (refine Or.inl ⟨by rfl, ?_⟩; intro W hSw; (try dsimp only at hSw); go_simp; (try with_reducible rfl))
  try simp only [Act.put, pzz]
  refine tkH (i := 5) (oi := { dst := some 19, op := .move (.tmp 6), type := 3, pos := "ref.go:27", after := #[⟨3, .guard⟩], guard := some (3, false) }) (v := ?vv29) ?hy29 ?rest29
  case hy29 => (refine Or.inl ⟨by rfl, ?_⟩; intro W hSw; (try dsimp only at hSw); go_simp; (try with_reducible rfl))
  try simp only [Act.put, pzz]
  refine tkH (i := 6) (oi := { dst := some 20, op := .nilCheck (.tmp 18), type := 0, pos := "ref.go:27", after := #[⟨4, .data⟩, ⟨3, .guard⟩], guard := some (3, false) }) (v := ?vv30) ?hy30 ?rest30
  case hy30 => (refine Or.inl ⟨by rfl, ?_⟩; intro W hSw; (try dsimp only at hSw); go_simp; (try with_reducible rfl))
  try simp only [Act.put, pzz]
  refine tkH (i := 7) (oi := { dst := some 21, op := .fieldAddr 32 (.tmp 20) 2, type := 0, pos := "ref.go:27", after := #[⟨6, .data⟩, ⟨3, .guard⟩], guard := some (3, false) }) (v := ?vv31) ?hy31 ?rest31
  case hy31 => (refine Or.inl ⟨by rfl, ?_⟩; intro W hSw; (try dsimp only at hSw); go_simp; (try with_reducible rfl))
  try simp only [Act.put, pzz]
  refine tkH (i := 8) (oi := { dst := some 22, op := .indexAddr 30 (.tmp 21) (.tmp 19), type := 0, pos := "ref.go:27", after := #[⟨7, .data⟩, ⟨5, .data⟩, ⟨3, .guard⟩], guard := some (3, false) }) (v := ?vv32) ?hy32 ?rest32
  case hy32 => (refine Or.inl ⟨by rfl, ?_⟩; intro W hSw; (try dsimp only at hSw); go_simp; (try with_reducible rfl))
  try simp only [Act.put, pzz]
  refine tkH (i := 9) (oi := { dst := some 23, op := .load 4 (.tmp 22), type := 4, pos := "ref.go:27", after := #[⟨8, .data⟩, ⟨3, .guard⟩], guard := some (3, false) }) (v := ?vv33) ?hy33 ?rest33
  case hy33 => (refine Or.inl ⟨by rfl, ?_⟩; intro W hSw; (try dsimp only at hSw); go_simp; (try with_reducible rfl))
  try simp only [Act.put, pzz]
  refine tkH (i := 10) (oi := { dst := some 24, op := .pick (.tmp 17) (.const (.bool true)) (.tmp 23), type := 4, pos := "ref.go:27", after := #[⟨3, .data⟩, ⟨9, .data⟩], guard := none }) (v := ?vv34) ?hy34 ?rest34
  case hy34 => (refine Or.inl ⟨by rfl, ?_⟩; intro W hSw; (try dsimp only at hSw); go_simp; (try with_reducible rfl))
  try simp only [Act.put, pzz]
  refine tkH (i := 11) (oi := { dst := some 25, op := .move (.tmp 24), type := 4, pos := "ref.go:27", after := #[⟨10, .data⟩, ⟨3, .chain⟩], guard := none }) (v := ?vv35) ?hy35 ?rest35
  case hy35 => (refine Or.inl ⟨by rfl, ?_⟩; intro W hSw; (try dsimp only at hSw); go_simp; (try with_reducible rfl))
  try simp only [Act.put, pzz]
  cases cs with
  | true =>
    refine tkH (i := 12) (oi := { dst := some 26, op := .move (.tmp 0), type := 28, pos := "ref.go:27", after := #[⟨11, .guard⟩], guard := some (11, false) }) (v := undef) ?hy36 ?rest36
    case hy36 => (exact Or.inr ⟨by rfl, rfl⟩)
    try simp only [Act.put, pzz]
    refine tkH (i := 13) (oi := { dst := some 27, op := .nilCheck (.tmp 26), type := 0, pos := "ref.go:27", after := #[⟨12, .data⟩, ⟨11, .guard⟩], guard := some (11, false) }) (v := undef) ?hy37 ?rest37
    case hy37 => (exact Or.inr ⟨by rfl, rfl⟩)
    try simp only [Act.put, pzz]
    refine tkH (i := 14) (oi := { dst := some 28, op := .fieldAddr 32 (.tmp 27) 1, type := 0, pos := "ref.go:27", after := #[⟨13, .data⟩, ⟨11, .guard⟩], guard := some (11, false) }) (v := undef) ?hy38 ?rest38
    case hy38 => (exact Or.inr ⟨by rfl, rfl⟩)
    try simp only [Act.put, pzz]
    refine tkH (i := 15) (oi := { dst := some 29, op := .load 29 (.tmp 28), type := 29, pos := "ref.go:27", after := #[⟨14, .data⟩, ⟨11, .guard⟩], guard := some (11, false) }) (v := undef) ?hy39 ?rest39
    case hy39 => (exact Or.inr ⟨by rfl, rfl⟩)
    try simp only [Act.put, pzz]
    refine tkH (i := 16) (oi := { dst := some 30, op := .call { callee := .builtin .len, args := #[.tmp 29], argTypes := #[29] }, type := 3, pos := "ref.go:27", after := #[⟨15, .data⟩, ⟨11, .guard⟩], guard := some (11, false) }) (v := undef) ?hy40 ?rest40
    case hy40 => (exact Or.inr ⟨by rfl, rfl⟩)
    try simp only [Act.put, pzz]
    refine tkH (i := 17) (oi := { dst := some 31, op := .move (.tmp 0), type := 28, pos := "ref.go:27", after := #[⟨11, .guard⟩], guard := some (11, false) }) (v := undef) ?hy41 ?rest41
    case hy41 => (exact Or.inr ⟨by rfl, rfl⟩)
    try simp only [Act.put, pzz]
    refine tkH (i := 18) (oi := { dst := some 32, op := .nilCheck (.tmp 31), type := 0, pos := "ref.go:27", after := #[⟨17, .data⟩, ⟨11, .guard⟩], guard := some (11, false) }) (v := undef) ?hy42 ?rest42
    case hy42 => (exact Or.inr ⟨by rfl, rfl⟩)
    try simp only [Act.put, pzz]
    refine tkH (i := 19) (oi := { dst := some 33, op := .fieldAddr 32 (.tmp 32) 0, type := 0, pos := "ref.go:27", after := #[⟨18, .data⟩, ⟨11, .guard⟩], guard := some (11, false) }) (v := undef) ?hy43 ?rest43
    case hy43 => (exact Or.inr ⟨by rfl, rfl⟩)
    try simp only [Act.put, pzz]
    refine tkH (i := 20) (oi := { dst := some 34, op := .load 3 (.tmp 33), type := 3, pos := "ref.go:27", after := #[⟨19, .data⟩, ⟨11, .guard⟩], guard := some (11, false) }) (v := undef) ?hy44 ?rest44
    case hy44 => (exact Or.inr ⟨by rfl, rfl⟩)
    try simp only [Act.put, pzz]
    refine tkH (i := 21) (oi := { dst := some 35, op := .binOp .geq 3 (.tmp 30) (.tmp 34) 3, type := 4, pos := "ref.go:27", after := #[⟨16, .data⟩, ⟨20, .data⟩, ⟨11, .guard⟩], guard := some (11, false) }) (v := undef) ?hy45 ?rest45
    case hy45 => (exact Or.inr ⟨by rfl, rfl⟩)
    try simp only [Act.put, pzz]
    refine tkH (i := 22) (oi := { dst := some 36, op := .pick (.tmp 25) (.const (.bool true)) (.tmp 35), type := 4, pos := "ref.go:27", after := #[⟨11, .data⟩, ⟨21, .data⟩], guard := none }) (v := ?vv46) ?hy46 ?rest46
    case hy46 => (refine Or.inl ⟨by rfl, ?_⟩; intro W hSw; (try dsimp only at hSw); go_simp; (try with_reducible rfl))
    try simp only [Act.put, pzz]
    refine wpAnyH_done (by kernel_rfl) ?_ _
    clear hHeld
    dsimp only [onlyN]
    have HB2 := Lib.hid (below_drew HB1.out)
    go_wp2_with fail
    go_ret
    exact .inl ⟨.inl rfl, rfl, HB2.out⟩
  | false =>
    refine tkH (i := 12) (oi := { dst := some 26, op := .move (.tmp 0), type := 28, pos := "ref.go:27", after := #[⟨11, .guard⟩], guard := some (11, false) }) (v := ?vv47) ?hy47 ?rest47
    case hy47 => (refine Or.inl ⟨by rfl, ?_⟩; intro W hSw; (try dsimp only at hSw); go_simp; (try with_reducible rfl))
    try simp only [Act.put, pzz]
    refine tkH (i := 13) (oi := { dst := some 27, op := .nilCheck (.tmp 26), type := 0, pos := "ref.go:27", after := #[⟨12, .data⟩, ⟨11, .guard⟩], guard := some (11, false) }) (v := ?vv48) ?hy48 ?rest48
    case hy48 => (refine Or.inl ⟨by rfl, ?_⟩; intro W hSw; (try dsimp only at hSw); go_simp; (try with_reducible rfl))
    try simp only [Act.put, pzz]
    refine tkH (i := 14) (oi := { dst := some 28, op := .fieldAddr 32 (.tmp 27) 1, type := 0, pos := "ref.go:27", after := #[⟨13, .data⟩, ⟨11, .guard⟩], guard := some (11, false) }) (v := ?vv49) ?hy49 ?rest49
    case hy49 => (refine Or.inl ⟨by rfl, ?_⟩; intro W hSw; (try dsimp only at hSw); go_simp; (try with_reducible rfl))
    try simp only [Act.put, pzz]
    refine tkH (i := 15) (oi := { dst := some 29, op := .load 29 (.tmp 28), type := 29, pos := "ref.go:27", after := #[⟨14, .data⟩, ⟨11, .guard⟩], guard := some (11, false) }) (v := ?vv50) ?hy50 ?rest50
    case hy50 => (refine Or.inl ⟨by rfl, ?_⟩; intro W hSw; (try dsimp only at hSw); go_simp; (try with_reducible rfl))
    try simp only [Act.put, pzz]
    refine tkH (i := 16) (oi := { dst := some 30, op := .call { callee := .builtin .len, args := #[.tmp 29], argTypes := #[29] }, type := 3, pos := "ref.go:27", after := #[⟨15, .data⟩, ⟨11, .guard⟩], guard := some (11, false) }) (v := ?vv51) ?hy51 ?rest51
    case hy51 => (refine Or.inl ⟨by rfl, ?_⟩; intro W hSw; (try dsimp only at hSw); go_simp; (try with_reducible rfl))
    try simp only [Act.put, pzz]
    refine tkH (i := 17) (oi := { dst := some 31, op := .move (.tmp 0), type := 28, pos := "ref.go:27", after := #[⟨11, .guard⟩], guard := some (11, false) }) (v := ?vv52) ?hy52 ?rest52
    case hy52 => (refine Or.inl ⟨by rfl, ?_⟩; intro W hSw; (try dsimp only at hSw); go_simp; (try with_reducible rfl))
    try simp only [Act.put, pzz]
    refine tkH (i := 18) (oi := { dst := some 32, op := .nilCheck (.tmp 31), type := 0, pos := "ref.go:27", after := #[⟨17, .data⟩, ⟨11, .guard⟩], guard := some (11, false) }) (v := ?vv53) ?hy53 ?rest53
    case hy53 => (refine Or.inl ⟨by rfl, ?_⟩; intro W hSw; (try dsimp only at hSw); go_simp; (try with_reducible rfl))
    try simp only [Act.put, pzz]
    refine tkH (i := 19) (oi := { dst := some 33, op := .fieldAddr 32 (.tmp 32) 0, type := 0, pos := "ref.go:27", after := #[⟨18, .data⟩, ⟨11, .guard⟩], guard := some (11, false) }) (v := ?vv54) ?hy54 ?rest54
    case hy54 => (refine Or.inl ⟨by rfl, ?_⟩; intro W hSw; (try dsimp only at hSw); go_simp; (try with_reducible rfl))
    try simp only [Act.put, pzz]
    refine tkH (i := 20) (oi := { dst := some 34, op := .load 3 (.tmp 33), type := 3, pos := "ref.go:27", after := #[⟨19, .data⟩, ⟨11, .guard⟩], guard := some (11, false) }) (v := ?vv55) ?hy55 ?rest55
    case hy55 => (refine Or.inl ⟨by rfl, ?_⟩; intro W hSw; (try dsimp only at hSw); go_simp; (try with_reducible rfl))
    try simp only [Act.put, pzz]
    obtain ⟨fl, hfl⟩ : ∃ b, decide (most ≤ (L.length : Int)) = b := ⟨_, rfl⟩
    have HFL := Lib.hid hfl
    refine tkH (i := 21) (oi := { dst := some 35, op := .binOp .geq 3 (.tmp 30) (.tmp 34) 3, type := 4, pos := "ref.go:27", after := #[⟨16, .data⟩, ⟨20, .data⟩, ⟨11, .guard⟩], guard := some (11, false) }) (v := (.bool fl)) ?hy56 ?rest56
    case hy56 => ((refine Or.inl ⟨by rfl, ?_⟩; intro W hSw; (try dsimp only at hSw); go_simp; (try exact hfl)))
    try simp only [Act.put, pzz]
    clear hfl
    refine tkH (i := 22) (oi := { dst := some 36, op := .pick (.tmp 25) (.const (.bool true)) (.tmp 35), type := 4, pos := "ref.go:27", after := #[⟨11, .data⟩, ⟨21, .data⟩], guard := none }) (v := ?vv57) ?hy57 ?rest57
    case hy57 => (refine Or.inl ⟨by rfl, ?_⟩; intro W hSw; (try dsimp only at hSw); go_simp; (try with_reducible rfl))
    try simp only [Act.put, pzz]
    refine wpAnyH_done (by kernel_rfl) ?_ _
    clear hHeld
    dsimp only [onlyN]
    have HB2 := Lib.hid (below_drew HB1.out)
    cases fl with
    | true =>
      go_wp2_with fail
      go_ret
      exact .inl ⟨.inr (of_decide_eq_true HFL.out), rfl, HB2.out⟩
    | false =>
      have hx : ∃ x : RP, x = ⟨encM m, (s : Int), 0, some ⟨g1, 0, none⟩, k1⟩ := ⟨_, rfl⟩
      obtain ⟨x, hx⟩ := hx
      have hxa : x.a = #[.slice (some ⟨g1, 0, none⟩) n k1, .int .i64 s, .int .i64 0] := by rw [hx]; unfold RP.a RP.v; rw [HN.out.1]
      have hput := rnput_any (A := L) (B := []) (x := x) (by rw [List.append_nil]; exact HH.out.1.below HB2.out) (by rw [List.append_nil]; have := HH.out.2; omega)
      rw [hxa, List.append_nil] at hput
      have HPU := Lib.hid hput
      have hcl := HC.out _ HB2.out
      have hc0 := hcl.1
      have hc1 := hcl.2.1
      have HX := Lib.hid hx
      have HB12 : Hid (Below w1.heap.size w1 w1.drew) := Lib.hid (below_drew (Below.refl _ _))
      generalize w1.drew = w2 at *
      clear hcl hx hxa hput
      go_wp2_with fail
      refine (HPU.out).mono ?_
      rintro e w3 ⟨rfl, v3, h3, ht3, hv3⟩
      have hown : OwnBy w3 w.heap.size (.slice (some ⟨g1, 0, none⟩) (encM m).length k1) (encM m) := by
        have hg1 : w.heap.size ≤ g1 := Nat.le_trans HA0.out.2.size HC1.out.new
        have hr := heap_lt HH.out.1.head
        have h1 : OwnC w1 w.heap.size g1 k1 (encM m) := ⟨hg1, HC1.out.lt, HC1.out.le, HC1.out.max, HC1.out.holds, HC1.out.there⟩
        have h2 := h1.keep HB12.out.size (HB12.out.block _ h1.lt)
        exact .inr ⟨g1, k1, rfl, h2.keep ht3.size (ht3.block _ h2.lt (by omega))⟩
      have HF : Hid (RSend w r most L ct m w3) := Lib.hid ⟨some ⟨g1, 0, none⟩, k1, hown, v3, by rw [HX.out, ← HSI.out] at h3; exact h3, (Touch.of_below HB2.out).trans ht3 (fun _ _ e => e), fun k e => Nat.le_trans HB2.out.size (hv3 k e)⟩
      clear h3 ht3 hv3 hown hc0 hc1
      go_wp2_with fail
      go_ret
      exact .inr ⟨rfl, by have := of_decide_eq_false HFL.out; omega, rfl, HF.out⟩
end
end Go.Proofs.YtmbonngjkgcijaaGreatDoor

namespace Go.Proofs.YtmbonngjkgcijaaGreatDoor
open Go.RowKit Go.Shelf Go.Lib

/-- The document's own reader at block g, over bytes wherever they lie. -/
structure RfAt (w : World) (g : Nat) (A : Option Addr) (cap : Nat) (bs : List UInt8) (p : Nat) (e bad : Int) : Prop where
  blk : w.heap[g]? = some (.cells #[.slice A bs.length cap, .int .i64 (p : Int), .int .i64 e, .int .i64 bad] 236 (0, 0))
  le : p ≤ bs.length
  room : bs.length ≤ cap
  max : cap ≤ maxLen
  byt : ∀ i b, bs[i]? = some b → ∃ a : Addr, A = some a ∧ a.block < w.heap.size ∧ a.block ≠ g ∧ w.cell? (a.add i) = some (.int .u8 (b.toNat : Int))
theorem natP_cons (b : UInt8) (r : List UInt8) : natP (b :: r) = if 8 < b.toNat then none else if r.length < b.toNat then none else if 0 < b.toNat ∧ r[0]? = some 0 then none else some (foldB (r.take b.toNat), b.toNat + 1) := rfl
theorem fold_lt8 {l : List UInt8} {k : Nat} (hk : k < 8) : foldB (l.take k) < 72057594037927936 := by
  have h1 := foldB_lt (l.take k)
  have h2 : (l.take k).length ≤ 7 := by rw [List.length_take]; omega
  exact Nat.lt_of_lt_of_le h1 (Nat.le_trans (Nat.pow_le_pow_right (by omega) h2) (by decide))
theorem fold_next {l : List UInt8} {k : Nat} {x : UInt8} (hx : l[k]? = some x) : foldB (l.take (k + 1)) = foldB (l.take k) * 256 + x.toNat := by
  have hlt : k < l.length := (List.getElem?_eq_some_iff.1 hx).1
  rw [List.take_succ_eq_append_getElem hlt, foldB_snoc, (List.getElem?_eq_some_iff.1 hx).2]
set_option maxRecDepth 100000 in
set_option maxHeartbeats 4000000 in
theorem rf_nat {w : World} {g : Nat} {A : Option Addr} {cap : Nat} {bs : List UInt8} {p : Nat} {e bad : Int} (h : RfAt w g A cap bs p e bad) :
    Calls Tryz.prog 164 #[.pointer (some ⟨g, 0, none⟩), .int .i64 (p : Int)] w fun x w' => x = .returned (.tuple #[.int .u64 ((((natP (bs.drop p)).getD (0, 0)).1 : Nat) : Int), .int .i64 ((((natP (bs.drop p)).getD (0, 0)).2 : Nat) : Int)]) ∧ w = w' := by
  have kb : w.cell? ⟨g, 0, none⟩ = some (.slice A bs.length cap) := cell_of h.blk 0
  have hle := h.le
  have hc := h.room
  have hm := h.max
  unfold maxLen at hm
  have hbI : (bs.length : Int) ≤ 9223372036854775807 := by omega
  by_cases hp : p = bs.length
  · have e1 : natP (bs.drop p) = none := by subst hp; rw [List.drop_length]; rfl
    rw [e1]
    have q1 : (bs.length : Int) ≤ (p : Int) := by omega
    clear h hp
    go_enter Tryz.func164, Tryz.ntmps164
    go_wp2_with fail
    refine bodyPost_ret (v := .tuple #[.int .u64 0, .int .i64 0]) (by simp [results, Tryz.results164, go_sem]) rfl ?_
    exact ⟨rfl, rfl⟩
  · obtain ⟨b, hb⟩ : ∃ b, bs[p]? = some b := ⟨_, List.getElem?_eq_getElem (by omega)⟩
    obtain ⟨a, rfl, hal, hag, kc⟩ := h.byt p b hb
    have hd : bs.drop p = b :: bs.drop (p + 1) := by rw [List.drop_eq_getElem_cons (by omega), (List.getElem?_eq_some_iff.1 hb).2]
    have hrl : (bs.drop (p + 1)).length = bs.length - (p + 1) := List.length_drop
    have hnat := natP_cons b (bs.drop (p + 1))
    rw [← hd, hrl] at hnat
    have hb255 := b.toNat_lt
    have q0 : (p : Int) < (bs.length : Int) := by omega
    by_cases h8 : 8 < b.toNat
    · rw [if_pos h8] at hnat
      rw [hnat]
      have q1 : (8 : Int) < (b.toNat : Int) := by omega
      clear h hp hb hd hrl hnat
      go_enter Tryz.func164, Tryz.ntmps164
      go_wp2_with fail
      refine bodyPost_ret (v := .tuple #[.int .u64 0, .int .i64 0]) (by simp [results, Tryz.results164, go_sem]) rfl ?_
      exact ⟨rfl, rfl⟩
    · rw [if_neg h8] at hnat
      have q1 : ¬ (8 : Int) < (b.toNat : Int) := by omega
      have w1 : IntKind.i64.wrap ((bs.length : Int) - (p : Int)) = (bs.length : Int) - (p : Int) := IntWalk.i64_in _ (by omega)
      have w2 : IntKind.i64.wrap ((bs.length : Int) - (p : Int) - 1) = (bs.length : Int) - (p : Int) - 1 := IntWalk.i64_in _ (by omega)
      by_cases hk : bs.length - (p + 1) < b.toNat
      · rw [if_pos hk] at hnat
        rw [hnat]
        have q2 : (bs.length : Int) - (p : Int) - 1 < (b.toNat : Int) := by omega
        clear h hp hb hd hrl hnat
        go_enter Tryz.func164, Tryz.ntmps164
        go_wp2_with fail
        refine bodyPost_ret (v := .tuple #[.int .u64 0, .int .i64 0]) (by simp [results, Tryz.results164, go_sem]) rfl ?_
        exact ⟨rfl, rfl⟩
      · rw [if_neg hk] at hnat
        have q2 : ¬ (bs.length : Int) - (p : Int) - 1 < (b.toNat : Int) := by omega
        obtain ⟨k, hkb⟩ : ∃ k, b.toNat = k := ⟨_, rfl⟩
        rw [hkb] at hnat q1 q2 kc h8 hk
        obtain ⟨l, hl⟩ : ∃ l, bs.drop (p + 1) = l := ⟨_, rfl⟩
        rw [hl] at hnat hrl
        have HCL : Hid (∀ i x, l[i]? = some x → w.cell? (a.add (p + 1 + i)) = some (.int .u8 (x.toNat : Int))) := Lib.hid (fun i x hx => by
          rw [← hl, List.getElem?_drop] at hx
          obtain ⟨a', e, _, _, hc⟩ := h.byt _ x hx
          cases e
          exact hc)
        have HLL : Hid (k ≤ l.length) := Lib.hid (by omega)
        have HNAT := Lib.hid hnat
        have hpk : p + 1 + k ≤ bs.length := by omega
        have hpkI : (p : Int) + 1 + (k : Int) ≤ (bs.length : Int) := by omega
        have hk8 : (k : Int) ≤ 8 := by omega
        clear h hp hb hd hrl hnat hl hkb hb255 hk hpk
        go_enter Tryz.func164, Tryz.ntmps164
        go_wp2_with fail
        go_loop [7, 8] (fun m i => ∃ j : Nat, j ≤ k ∧ i = .int .i64 ((j : Int) + 1) ∧ m = .int .u64 ((foldB (l.take j) : Nat) : Int)) (fun _ i => k + 1 - (RowKit.intOf i).toNat)
        case atStart => exact ⟨0, by omega, rfl, rfl⟩
        case round =>
          obtain ⟨j, hj, rfl, rfl⟩ := hrel
          by_cases hlt : j < k
          · obtain ⟨x, hx⟩ : ∃ x, l[j]? = some x := ⟨_, List.getElem?_eq_getElem (by have := HLL.out; omega)⟩
            have kx := HCL.out j x hx
            have hf := fold_lt8 (l := l) (k := j) (by omega)
            have HN := Lib.hid (fold_next hx)
            have hx255 := x.toNat_lt
            obtain ⟨N, hN⟩ : ∃ N, foldB (l.take j) = N := ⟨_, rfl⟩
            rw [hN] at hf HN ⊢
            obtain ⟨X, hX⟩ : ∃ X, x.toNat = X := ⟨_, rfl⟩
            rw [hX] at kx HN hx255
            have u1 : IntKind.u64.wrap ((N : Int) * 256) = (N : Int) * 256 := by rw [IntKind.wrap_u64]; omega
            have u2 : IntKind.u64.wrap (X : Int) = (X : Int) := by rw [IntKind.wrap_u64]; omega
            have u3 : IntKind.u64.wrap ((N : Int) * 256 + (X : Int)) = (N : Int) * 256 + (X : Int) := by rw [IntKind.wrap_u64]; omega
            have r0 : (j : Int) + 1 ≤ (k : Int) := by omega
            have r1 : (p : Int) + ((j : Int) + 1) < (bs.length : Int) := by omega
            have r2 : IntKind.i64.wrap ((p : Int) + ((j : Int) + 1)) = (p : Int) + ((j : Int) + 1) := IntWalk.i64_in _ (by omega)
            have r3 : ((p : Int) + ((j : Int) + 1)).toNat = p + 1 + j := by omega
            have HLT := Lib.hid hlt
            clear hx hN hX hlt
            go_wp2
            go_round
            case rel => exact ⟨j + 1, HLT.out, by go_num, by rw [HN.out]; simp⟩
            case measure => have := HLT.out; simp [RowKit.intOf]; omega
          · obtain rfl : j = k := by omega
            have r0 : ¬ (j : Int) + 1 ≤ (j : Int) := by omega
            by_cases hj0 : j = 0
            · subst hj0
              have hn := HNAT.out
              rw [if_neg (by omega)] at hn
              have HN := Lib.hid hn
              have s0 : ¬ (0 : Int) < ((0 : Nat) : Int) := by omega
              clear hn
              go_wp2_with fail
              refine bodyPost_ret (v := .tuple #[.int .u64 ((foldB (l.take 0) : Nat) : Int), .int .i64 1]) (by simp [results, Tryz.results164, go_sem]) rfl ?_
              rw [HN.out]
              exact ⟨rfl, rfl⟩
            · obtain ⟨x, hx⟩ : ∃ x, l[0]? = some x := ⟨_, List.getElem?_eq_getElem (by have := HLL.out; omega)⟩
              have kx := HCL.out 0 x hx
              have hn := HNAT.out
              rw [hx] at hn
              have s0 : (0 : Int) < (j : Int) := by omega
              have s1 : (p : Int) + 1 < (bs.length : Int) := by omega
              have s2 : IntKind.i64.wrap ((p : Int) + 1) = (p : Int) + 1 := IntWalk.i64_in _ (by omega)
              have s3 : ((p : Int) + 1).toNat = p + 1 := by omega
              have s4 : IntKind.i64.wrap ((j : Int) + 1) = (j : Int) + 1 := IntWalk.i64_in _ (by omega)
              obtain ⟨N, hN⟩ : ∃ N, foldB (l.take j) = N := ⟨_, rfl⟩
              rw [hN] at hn
              by_cases hx0 : x = 0
              · subst hx0
                rw [if_pos ⟨by omega, rfl⟩] at hn
                have HN := Lib.hid hn
                have kx0 : w.cell? (a.add (p + 1)) = some (.int .u8 0) := kx
                rw [show a.add (p + 1) = ⟨a.block, a.off + (p + 1), none⟩ by unfold Addr.add; rw [if_neg (by omega)]] at kx0
                clear hn hx kx hN hj0
                go_wp2_with fail
                refine bodyPost_ret (v := .tuple #[.int .u64 0, .int .i64 0]) (by simp [results, Tryz.results164, go_sem]) rfl ?_
                rw [HN.out]
                exact ⟨rfl, rfl⟩
              · rw [if_neg (by rintro ⟨_, e⟩; exact hx0 (Option.some.inj e))] at hn
                have hX0 : x.toNat ≠ 0 := fun e => hx0 (UInt8.toNat_inj.1 e)
                obtain ⟨X, hX⟩ : ∃ X, x.toNat = X := ⟨_, rfl⟩
                rw [hX] at kx hX0
                have s5 : ¬ (X : Int) = 0 := by omega
                have s6 : ((X : Int) == 0) = false := by simpa using s5
                have HN := Lib.hid hn
                have HNN := Lib.hid hN
                clear hn hx hN hX hj0
                rw [Nat.add_zero, show a.add (p + 1) = ⟨a.block, a.off + (p + 1), none⟩ by unfold Addr.add; rw [if_neg (by omega)]] at kx
                go_wp2_with fail
                refine bodyPost_ret (v := .tuple #[.int .u64 ((foldB (l.take j) : Nat) : Int), .int .i64 ((j : Int) + 1)]) (by simp [results, Tryz.results164, go_sem]) rfl ?_
                rw [HN.out, HNN.out]
                exact ⟨rfl, rfl⟩
end Go.Proofs.YtmbonngjkgcijaaGreatDoor
