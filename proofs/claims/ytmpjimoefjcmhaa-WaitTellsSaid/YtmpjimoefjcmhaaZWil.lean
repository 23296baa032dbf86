/- WaitOrders: in an order each that is there stands once, and nobody ahead of one for whom it waits. -/
import Derived.Test.YtmpjimoefjcmhaaZWik
set_option linter.unusedSimpArgs false
set_option linter.unusedVariables false
set_option linter.unnecessarySimpa false
namespace Go.Proofs.Ytmpjimoefjcmhaa
open Go.RowKit

theorem nodup_at {l : List Int} (h : l.Nodup) {i j : Nat} {x : Int} (hi : l[i]? = some x) (hj : l[j]? = some x) : i = j := by
  have h1 := (List.getElem?_eq_some_iff.1 hi).1
  have h2 := (List.getElem?_eq_some_iff.1 hj).1
  rw [List.Nodup, List.pairwise_iff_getElem] at h
  rcases Nat.lt_trichotomy i j with e | e | e
  · exact (h i j h1 h2 e (by rw [(List.getElem?_eq_some_iff.1 hi).2, (List.getElem?_eq_some_iff.1 hj).2])).elim
  · exact e
  · exact (h j i h2 h1 e (by rw [(List.getElem?_eq_some_iff.1 hi).2, (List.getElem?_eq_some_iff.1 hj).2])).elim
theorem OrdI.full {G : Gr} {ks o : List Int} (h : OrdI G ks o) (hl : o.length = ks.length) : ∀ y ∈ ks, y ∈ o := fun y hy => by
  by_cases e : y ∈ o
  · exact e
  · have h1 := nodup_le (r := y :: o) (m := ks) (List.nodup_cons.2 ⟨e, h.one⟩) (fun z hz => by
      rcases List.mem_cons.1 hz with rfl | e2
      · exact hy
      · exact h.sub z e2)
    rw [List.length_cons] at h1
    omega
theorem order_at {l : List (Int × Int)} {ns o : List Int} (h : OrdI (graphR l) ns o) (hk : KeysP l ns) (hl : o.length = ns.length) {x y : Int} (he : (x, y) ∈ l) : ∃ i j : Nat, o[i]? = some x ∧ o[j]? = some y ∧ j < i := by
  have hx : x ∈ o := h.full hl x ((hk.mem x).2 ⟨_, he, .inl rfl⟩)
  obtain ⟨i, hi⟩ := List.getElem?_of_mem hx
  have hil := (List.getElem?_eq_some_iff.1 hi).1
  have hsp : o = o.take i ++ x :: o.drop (i + 1) := by
    have := List.drop_eq_getElem_cons hil
    rw [(List.getElem?_eq_some_iff.1 hi).2] at this
    rw [← this, List.take_append_drop]
  have hy := h.ahead _ x _ hsp y ((mem_at l x y).2 he)
  obtain ⟨j, hj⟩ := List.getElem?_of_mem hy
  have hjl := (List.getElem?_eq_some_iff.1 hj).1
  rw [List.length_take] at hjl
  rw [List.getElem?_take_of_lt (by omega)] at hj
  exact ⟨i, j, hi, hj, by omega⟩
theorem place_in {w : World} {v : Value} {l : List Int} {x : Int} {k : Nat} (h : RowIs w 1 v l.length (ints l)) (hl : l.length ≤ 1000000000) (hn : l.Nodup) (hk : l[k]? = some x) : Calls Try.prog 19 #[v, .int .i64 x] w fun e w' => e = .returned (.int .i64 k) ∧ w' = w := by
  refine (place_at (x := x) h hl).mono ?_
  rintro e w' ⟨⟨j, rfl, hj⟩ | ⟨_, hno⟩, rfl⟩
  · exact ⟨by rw [nodup_at hn hj hk], rfl⟩
  · exact (hno (List.mem_of_getElem? hk)).elim
set_option maxRecDepth 100000 in
set_option maxHeartbeats 4000000 in
theorem law_orders {w : World} {v : Value} {l0 : List (Int × Int)} (h : EIs w v l0) (hr : ∀ e ∈ l0, InR64 e.1 ∧ InR64 e.2) :
    Calls Try.prog 6 #[v] w fun e w' => e = .returned (.bool true) ∧ Below w.heap.size w w' := by
  have HC := Lib.hid (cut_any h)
  have HR : Hid (∀ e ∈ l0.take 24, InR64 e.1 ∧ InR64 e.2) := Lib.hid (fun e he => hr e (List.mem_of_mem_take he))
  have hl : (l0.take 24).length ≤ 24 := by rw [List.length_take]; omega
  generalize l0.take 24 = l at HC HR hl
  clear h hr
  go_enter Try.func6, Try.ntmps6
  go_wp2_with fail
  refine (HC.out).mono ?_
  rintro e w1 ⟨v1, rfl, he1, rfl⟩
  have HE1 := Lib.hid he1
  have HO := Lib.hid (ours_any he1 (by omega))
  clear he1 HC
  go_wp2_with fail
  refine (HO.out).mono ?_
  rintro e w2 ⟨v2, rfl, he2, hb2⟩
  have HOR := Lib.hid (order_any he2 HR.out (by omega))
  have HB2 := Lib.hid hb2
  clear he2 hb2 HO
  go_wp2_with fail
  refine (HOR.out).mono ?_
  rintro e w3 ⟨v3, o, b, ns, rfl, hks, _, hof, hot, hv3, _, hb3⟩
  have HB3 := Lib.hid (HB2.out.trans (hb3.mono HB2.out.size))
  have HKS := Lib.hid hks
  have HV3 := Lib.hid hv3
  cases b with
  | false =>
    have := hof rfl
    subst this
    obtain ⟨A3, c3, e3, _⟩ := hv3.form
    subst e3
    have HAW := Lib.hid (awake_any w3)
    clear hks hof hot hv3 hb3 HOR
    go_wp2_with fail
    refine (HAW.out).mono ?_
    rintro e w6 ⟨rfl, hb6⟩
    have HB6 := Lib.hid (HB3.out.trans (hb6.mono HB3.out.size))
    clear hb6 HAW
    go_wp2_with fail
    go_ret
    first | exact HB6.out | exact ⟨rfl, HB6.out⟩
  | true =>
    obtain ⟨hoi, hol⟩ := hot rfl
    have HOI := Lib.hid hoi
    have hfew := hks.few
    have HOL := Lib.hid hol
    have hon : o.length ≤ 48 := by omega
    have HON := Lib.hid hon
    obtain ⟨A3, c3, e3, hc31, hc32, _⟩ := hv3.form
    subst e3
    unfold maxLen at hc32
    have hoI : (o.length : Int) ≤ 48 := by omega
    obtain ⟨A1, c1, e1, hc11, hc12, _⟩ := HE1.out.below HB3.out
    subst e1
    unfold maxLen at hc12
    have hlI : (l.length : Int) ≤ 24 := by omega
    have HL := Lib.hid hl
    clear hks hof hot hv3 hb3 HOR hoi hol hfew hon
    go_wp2_with fail
    go_loopw [25] (fun iv wr => ∃ k : Nat, k ≤ l.length ∧ iv = .int .i64 k ∧ Below w3.heap.size w3 wr) (fun iv _ => l.length - (intOf iv).toNat)
    case atStart => exact ⟨0, Nat.zero_le _, rfl, Below.refl _ _⟩
    case round =>
      obtain ⟨k, hk, rfl, hb⟩ := hrel
      have HB := Lib.hid hb
      by_cases hlt : k < l.length
      · have hx : l[k]? = some l[k] := List.getElem?_eq_getElem hlt
        have hmem := List.getElem_mem hlt
        generalize l[k] = e at hx hmem
        obtain ⟨A', cap', e', _, _, h3⟩ := (HE1.out.below HB3.out).below hb
        injection e' with e1 _ e3
        subst e1 e3
        obtain ⟨a, rfl, ha, k0, k1⟩ := h3 k e hx
        obtain ⟨x, y⟩ := e
        have hi : (k : Int) < (l.length : Int) := by omega
        have k1' : wr.cell? ⟨(a.add (k * 2)).block, (a.add (k * 2)).off + 1, none⟩ = some (.int .i64 y) := k1
        obtain ⟨i, j, hpi, hpj, hji⟩ := order_at HOI.out HKS.out HOL.out hmem
        have hbn := below_new (w := wr) (.cells #[.int .i64 x, .int .i64 y] 40)
        have hvd := ((HV3.out.below hb).below hbn).below (below_drew (Below.refl _ _))
        have HP1 := Lib.hid (place_in hvd (by have := HON.out; omega) HOI.out.one hpi)
        have HP2 := Lib.hid (place_in hvd (by have := HON.out; omega) HOI.out.one hpj)
        have c0 := cell_of (alloc_at wr (.cells #[.int .i64 x, .int .i64 y] 40)) 0
        have c1 := cell_of (alloc_at wr (.cells #[.int .i64 x, .int .i64 y] 40)) 1
        have hc : (wr.alloc (.cells #[.int .i64 x, .int .i64 y] 40)).drew.cell? ⟨wr.heap.size, 0, none⟩ = some (.int .i64 x) ∧ (wr.alloc (.cells #[.int .i64 x, .int .i64 y] 40)).drew.cell? ⟨wr.heap.size, 1, none⟩ = some (.int .i64 y) := ⟨c0, c1⟩
        have HCC := Lib.hid hc
        have HBN : Hid (Below w3.heap.size w3 (wr.alloc (.cells #[.int .i64 x, .int .i64 y] 40)).drew) := Lib.hid (below_drew (hb.trans (hbn.mono hb.size)))
        have q1 : ((i : Int) < 0) = False := eq_false (by omega)
        have q2 : ((j : Int) < 0) = False := eq_false (by omega)
        have q3 : ((i : Int) ≤ (j : Int)) = False := eq_false (by omega)
        have q4 : (i ≤ j) = False := eq_false (by omega)
        have HLT := Lib.hid hlt
        clear h3 hx hmem hk k1 hb hlt hpi hpj hji hbn hvd c0 c1 hc
        go_wp2_with fail
        refine wp_region_held_drew (S := fun W => W.cell? ⟨wr.heap.size, 0, none⟩ = some (.int .i64 x) ∧ W.cell? ⟨wr.heap.size, 1, none⟩ = some (.int .i64 y)) (by kernel_rfl) HCC.out (fun hHeld => ?_)
        clear k0 k1'
        refine wpAnyH_take (i := 0) (oi := { dst := some 29, op := Op.move (Operand.tmp 3), type := 26, pos := "law.go:132", after := #[], guard := none }) (v := ?vv1) rfl (by kernel_rfl) (by kernel_rfl) (by kernel_rfl) (fun _ _ _ h => h) ?hy1 (by assumption) ?rest1
        case hy1 => (refine Or.inl ⟨by rfl, ?_⟩; intro W hSw; (try dsimp only at hSw); go_simp; (try with_reducible rfl))
        try simp only [Act.put, List.setIfInBounds_toArray, List.set_cons_zero, List.set_cons_succ]
        refine wpAnyH_take (i := 1) (oi := { dst := some 30, op := Op.fieldAddr 40 (Operand.tmp 6) 0, type := 0, pos := "law.go:132", after := #[], guard := none }) (v := ?vv2) rfl (by kernel_rfl) (by kernel_rfl) (by kernel_rfl) (fun _ _ _ h => h) ?hy2 (by assumption) ?rest2
        case hy2 => (refine Or.inl ⟨by rfl, ?_⟩; intro W hSw; (try dsimp only at hSw); go_simp; (try with_reducible rfl))
        try simp only [Act.put, List.setIfInBounds_toArray, List.set_cons_zero, List.set_cons_succ]
        refine wpAnyH_take (i := 2) (oi := { dst := some 31, op := Op.load 3 (Operand.tmp 30), type := 3, pos := "law.go:132", after := #[{ on := 1, ground := Ground.data }], guard := none }) (v := ?vv3) rfl (by kernel_rfl) (by kernel_rfl) (by kernel_rfl) (fun _ _ _ h => h) ?hy3 (by assumption) ?rest3
        case hy3 => (refine Or.inl ⟨by rfl, ?_⟩; intro W hSw; (try dsimp only at hSw); go_simp; (try with_reducible rfl))
        try simp only [Act.put, List.setIfInBounds_toArray, List.set_cons_zero, List.set_cons_succ]
        refine wpAnyH_ready (rs := [3]) (by kernel_rfl) (by simp) ?_
        refine AllReadyH.cons (o := { dst := some 32, op := Op.call { callee := Callee.value (Operand.func 19), args := #[Operand.tmp 29, Operand.tmp 31], argTypes := #[26, 3] }, type := 3, pos := "law.go:132", after := #[{ on := 0, ground := Ground.data }, { on := 2, ground := Ground.data }], guard := none }) rfl (fun K hK => ?step4) ?more4
        case more4 => exact AllReadyH.nil
        ((go_simp; go_at_call 19; refine (HP1.out).mono ?_; rintro e w4 ⟨rfl, rfl⟩; go_wp2_with fail))
        refine hK.out _ _ ?hS4 (fun hHeld => ?rr4)
        case hS4 => (exact HCC.out)
        clear hK K
        try simp only [Act.put, List.setIfInBounds_toArray, List.set_cons_zero, List.set_cons_succ]
        refine wpAnyH_take (i := 4) (oi := { dst := some 33, op := Op.binOp BinOp.lss 3 (Operand.tmp 32) (Operand.const (Value.int IntKind.i64 0)) 3, type := 4, pos := "law.go:132", after := #[{ on := 3, ground := Ground.data }], guard := none }) (v := ?vv5) rfl (by kernel_rfl) (by kernel_rfl) (by kernel_rfl) (fun _ _ _ h => h) ?hy5 (by assumption) ?rest5
        case hy5 => (refine Or.inl ⟨by rfl, ?_⟩; intro W hSw; (try dsimp only at hSw); go_simp; (try with_reducible rfl))
        try simp only [Act.put, List.setIfInBounds_toArray, List.set_cons_zero, List.set_cons_succ]
        refine wpAnyH_take (i := 5) (oi := { dst := some 34, op := Op.move (Operand.tmp 33), type := 4, pos := "law.go:132", after := #[{ on := 4, ground := Ground.data }, { on := 3, ground := Ground.chain }], guard := none }) (v := ?vv6) rfl (by kernel_rfl) (by kernel_rfl) (by kernel_rfl) (fun _ _ _ h => h) ?hy6 (by assumption) ?rest6
        case hy6 => (refine Or.inl ⟨by rfl, ?_⟩; intro W hSw; (try dsimp only at hSw); go_simp; (try with_reducible rfl))
        try simp only [Act.put, List.setIfInBounds_toArray, List.set_cons_zero, List.set_cons_succ]
        refine wpAnyH_take (i := 6) (oi := { dst := some 35, op := Op.move (Operand.tmp 3), type := 26, pos := "law.go:132", after := #[{ on := 5, ground := Ground.guard }], guard := some (5, false) }) (v := ?vv7) rfl (by kernel_rfl) (by kernel_rfl) (by kernel_rfl) (fun _ _ _ h => h) ?hy7 (by assumption) ?rest7
        case hy7 => (refine Or.inl ⟨by rfl, ?_⟩; intro W hSw; (try dsimp only at hSw); go_simp; (try with_reducible rfl))
        try simp only [Act.put, List.setIfInBounds_toArray, List.set_cons_zero, List.set_cons_succ]
        refine wpAnyH_take (i := 7) (oi := { dst := some 36, op := Op.fieldAddr 40 (Operand.tmp 6) 1, type := 0, pos := "law.go:132", after := #[{ on := 5, ground := Ground.guard }], guard := some (5, false) }) (v := ?vv8) rfl (by kernel_rfl) (by kernel_rfl) (by kernel_rfl) (fun _ _ _ h => h) ?hy8 (by assumption) ?rest8
        case hy8 => (refine Or.inl ⟨by rfl, ?_⟩; intro W hSw; (try dsimp only at hSw); go_simp; (try with_reducible rfl))
        try simp only [Act.put, List.setIfInBounds_toArray, List.set_cons_zero, List.set_cons_succ]
        refine wpAnyH_take (i := 8) (oi := { dst := some 37, op := Op.load 3 (Operand.tmp 36), type := 3, pos := "law.go:132", after := #[{ on := 7, ground := Ground.data }, { on := 5, ground := Ground.guard }], guard := some (5, false) }) (v := ?vv9) rfl (by kernel_rfl) (by kernel_rfl) (by kernel_rfl) (fun _ _ _ h => h) ?hy9 (by assumption) ?rest9
        case hy9 => (refine Or.inl ⟨by rfl, ?_⟩; intro W hSw; (try dsimp only at hSw); go_simp; (try with_reducible rfl))
        try simp only [Act.put, List.setIfInBounds_toArray, List.set_cons_zero, List.set_cons_succ]
        refine wpAnyH_ready (rs := [9]) (by kernel_rfl) (by simp) ?_
        refine AllReadyH.cons (o := { dst := some 38, op := Op.call { callee := Callee.value (Operand.func 19), args := #[Operand.tmp 35, Operand.tmp 37], argTypes := #[26, 3] }, type := 3, pos := "law.go:132", after := #[{ on := 6, ground := Ground.data }, { on := 8, ground := Ground.data }, { on := 5, ground := Ground.chain }, { on := 5, ground := Ground.guard }], guard := some (5, false) }) rfl (fun K hK => ?step10) ?more10
        case more10 => exact AllReadyH.nil
        ((go_simp; go_at_call 19; refine (HP2.out).mono ?_; rintro e w4 ⟨rfl, rfl⟩; go_wp2_with fail))
        refine hK.out _ _ ?hS10 (fun hHeld => ?rr10)
        case hS10 => (exact HCC.out)
        clear hK K
        try simp only [Act.put, List.setIfInBounds_toArray, List.set_cons_zero, List.set_cons_succ]
        refine wpAnyH_take (i := 10) (oi := { dst := some 39, op := Op.binOp BinOp.lss 3 (Operand.tmp 38) (Operand.const (Value.int IntKind.i64 0)) 3, type := 4, pos := "law.go:132", after := #[{ on := 9, ground := Ground.data }, { on := 5, ground := Ground.guard }], guard := some (5, false) }) (v := ?vv11) rfl (by kernel_rfl) (by kernel_rfl) (by kernel_rfl) (fun _ _ _ h => h) ?hy11 (by assumption) ?rest11
        case hy11 => (refine Or.inl ⟨by rfl, ?_⟩; intro W hSw; (try dsimp only at hSw); go_simp; (try with_reducible rfl))
        try simp only [Act.put, List.setIfInBounds_toArray, List.set_cons_zero, List.set_cons_succ]
        refine wpAnyH_take (i := 11) (oi := { dst := some 40, op := Op.pick (Operand.tmp 34) (Operand.const (Value.bool true)) (Operand.tmp 39), type := 4, pos := "law.go:132", after := #[{ on := 5, ground := Ground.data }, { on := 10, ground := Ground.data }], guard := none }) (v := ?vv12) rfl (by kernel_rfl) (by kernel_rfl) (by kernel_rfl) (fun _ _ _ h => h) ?hy12 (by assumption) ?rest12
        case hy12 => (refine Or.inl ⟨by rfl, ?_⟩; intro W hSw; (try dsimp only at hSw); go_simp; (try with_reducible rfl))
        try simp only [Act.put, List.setIfInBounds_toArray, List.set_cons_zero, List.set_cons_succ]
        refine wpAnyH_take (i := 12) (oi := { dst := some 41, op := Op.move (Operand.tmp 40), type := 4, pos := "law.go:132", after := #[{ on := 11, ground := Ground.data }, { on := 9, ground := Ground.chain }], guard := none }) (v := ?vv13) rfl (by kernel_rfl) (by kernel_rfl) (by kernel_rfl) (fun _ _ _ h => h) ?hy13 (by assumption) ?rest13
        case hy13 => (refine Or.inl ⟨by rfl, ?_⟩; intro W hSw; (try dsimp only at hSw); go_simp; (try with_reducible rfl))
        try simp only [Act.put, List.setIfInBounds_toArray, List.set_cons_zero, List.set_cons_succ]
        refine wpAnyH_take (i := 13) (oi := { dst := some 42, op := Op.move (Operand.tmp 3), type := 26, pos := "law.go:132", after := #[{ on := 12, ground := Ground.guard }], guard := some (12, false) }) (v := ?vv14) rfl (by kernel_rfl) (by kernel_rfl) (by kernel_rfl) (fun _ _ _ h => h) ?hy14 (by assumption) ?rest14
        case hy14 => (refine Or.inl ⟨by rfl, ?_⟩; intro W hSw; (try dsimp only at hSw); go_simp; (try with_reducible rfl))
        try simp only [Act.put, List.setIfInBounds_toArray, List.set_cons_zero, List.set_cons_succ]
        refine wpAnyH_take (i := 14) (oi := { dst := some 43, op := Op.fieldAddr 40 (Operand.tmp 6) 0, type := 0, pos := "law.go:132", after := #[{ on := 12, ground := Ground.guard }], guard := some (12, false) }) (v := ?vv15) rfl (by kernel_rfl) (by kernel_rfl) (by kernel_rfl) (fun _ _ _ h => h) ?hy15 (by assumption) ?rest15
        case hy15 => (refine Or.inl ⟨by rfl, ?_⟩; intro W hSw; (try dsimp only at hSw); go_simp; (try with_reducible rfl))
        try simp only [Act.put, List.setIfInBounds_toArray, List.set_cons_zero, List.set_cons_succ]
        refine wpAnyH_take (i := 15) (oi := { dst := some 44, op := Op.load 3 (Operand.tmp 43), type := 3, pos := "law.go:132", after := #[{ on := 14, ground := Ground.data }, { on := 12, ground := Ground.guard }], guard := some (12, false) }) (v := ?vv16) rfl (by kernel_rfl) (by kernel_rfl) (by kernel_rfl) (fun _ _ _ h => h) ?hy16 (by assumption) ?rest16
        case hy16 => (refine Or.inl ⟨by rfl, ?_⟩; intro W hSw; (try dsimp only at hSw); go_simp; (try with_reducible rfl))
        try simp only [Act.put, List.setIfInBounds_toArray, List.set_cons_zero, List.set_cons_succ]
        refine wpAnyH_take (i := 17) (oi := { dst := some 46, op := Op.move (Operand.tmp 3), type := 26, pos := "law.go:132", after := #[{ on := 12, ground := Ground.guard }], guard := some (12, false) }) (v := ?vv17) rfl (by kernel_rfl) (by kernel_rfl) (by kernel_rfl) (fun _ _ _ h => h) ?hy17 (by assumption) ?rest17
        case hy17 => (refine Or.inl ⟨by rfl, ?_⟩; intro W hSw; (try dsimp only at hSw); go_simp; (try with_reducible rfl))
        try simp only [Act.put, List.setIfInBounds_toArray, List.set_cons_zero, List.set_cons_succ]
        refine wpAnyH_take (i := 18) (oi := { dst := some 47, op := Op.fieldAddr 40 (Operand.tmp 6) 1, type := 0, pos := "law.go:132", after := #[{ on := 12, ground := Ground.guard }], guard := some (12, false) }) (v := ?vv18) rfl (by kernel_rfl) (by kernel_rfl) (by kernel_rfl) (fun _ _ _ h => h) ?hy18 (by assumption) ?rest18
        case hy18 => (refine Or.inl ⟨by rfl, ?_⟩; intro W hSw; (try dsimp only at hSw); go_simp; (try with_reducible rfl))
        try simp only [Act.put, List.setIfInBounds_toArray, List.set_cons_zero, List.set_cons_succ]
        refine wpAnyH_take (i := 19) (oi := { dst := some 48, op := Op.load 3 (Operand.tmp 47), type := 3, pos := "law.go:132", after := #[{ on := 18, ground := Ground.data }, { on := 12, ground := Ground.guard }], guard := some (12, false) }) (v := ?vv19) rfl (by kernel_rfl) (by kernel_rfl) (by kernel_rfl) (fun _ _ _ h => h) ?hy19 (by assumption) ?rest19
        case hy19 => (refine Or.inl ⟨by rfl, ?_⟩; intro W hSw; (try dsimp only at hSw); go_simp; (try with_reducible rfl))
        try simp only [Act.put, List.setIfInBounds_toArray, List.set_cons_zero, List.set_cons_succ]
        refine wpAnyH_ready (rs := [16]) (by kernel_rfl) (by simp) ?_
        refine AllReadyH.cons (o := { dst := some 45, op := Op.call { callee := Callee.value (Operand.func 19), args := #[Operand.tmp 42, Operand.tmp 44], argTypes := #[26, 3] }, type := 3, pos := "law.go:132", after := #[{ on := 13, ground := Ground.data }, { on := 15, ground := Ground.data }, { on := 12, ground := Ground.chain }, { on := 12, ground := Ground.guard }], guard := some (12, false) }) rfl (fun K hK => ?step20) ?more20
        case more20 => exact AllReadyH.nil
        ((go_simp; go_at_call 19; refine (HP1.out).mono ?_; rintro e w4 ⟨rfl, rfl⟩; go_wp2_with fail))
        refine hK.out _ _ ?hS20 (fun hHeld => ?rr20)
        case hS20 => (exact HCC.out)
        clear hK K
        try simp only [Act.put, List.setIfInBounds_toArray, List.set_cons_zero, List.set_cons_succ]
        refine wpAnyH_ready (rs := [20]) (by kernel_rfl) (by simp) ?_
        refine AllReadyH.cons (o := { dst := some 49, op := Op.call { callee := Callee.value (Operand.func 19), args := #[Operand.tmp 46, Operand.tmp 48], argTypes := #[26, 3] }, type := 3, pos := "law.go:132", after := #[{ on := 17, ground := Ground.data }, { on := 19, ground := Ground.data }, { on := 16, ground := Ground.chain }, { on := 12, ground := Ground.guard }], guard := some (12, false) }) rfl (fun K hK => ?step21) ?more21
        case more21 => exact AllReadyH.nil
        ((go_simp; go_at_call 19; refine (HP2.out).mono ?_; rintro e w4 ⟨rfl, rfl⟩; go_wp2_with fail))
        refine hK.out _ _ ?hS21 (fun hHeld => ?rr21)
        case hS21 => (exact HCC.out)
        clear hK K
        try simp only [Act.put, List.setIfInBounds_toArray, List.set_cons_zero, List.set_cons_succ]
        refine wpAnyH_take (i := 21) (oi := { dst := some 50, op := Op.binOp BinOp.leq 3 (Operand.tmp 45) (Operand.tmp 49) 3, type := 4, pos := "law.go:132", after := #[{ on := 16, ground := Ground.data }, { on := 20, ground := Ground.data }, { on := 12, ground := Ground.guard }], guard := some (12, false) }) (v := ?vv22) rfl (by kernel_rfl) (by kernel_rfl) (by kernel_rfl) (fun _ _ _ h => h) ?hy22 (by assumption) ?rest22
        case hy22 => (refine Or.inl ⟨by rfl, ?_⟩; intro W hSw; (try dsimp only at hSw); go_simp; (try with_reducible rfl))
        try simp only [Act.put, List.setIfInBounds_toArray, List.set_cons_zero, List.set_cons_succ]
        refine wpAnyH_take (i := 22) (oi := { dst := some 51, op := Op.pick (Operand.tmp 41) (Operand.const (Value.bool true)) (Operand.tmp 50), type := 4, pos := "law.go:132", after := #[{ on := 12, ground := Ground.data }, { on := 21, ground := Ground.data }], guard := none }) (v := ?vv23) rfl (by kernel_rfl) (by kernel_rfl) (by kernel_rfl) (fun _ _ _ h => h) ?hy23 (by assumption) ?rest23
        case hy23 => (refine Or.inl ⟨by rfl, ?_⟩; intro W hSw; (try dsimp only at hSw); go_simp; (try with_reducible rfl))
        try simp only [Act.put, List.setIfInBounds_toArray, List.set_cons_zero, List.set_cons_succ]
        refine wpAnyH_done (by kernel_rfl) ?_ _
        clear hHeld
        go_wp2_with fail
        go_roundw
        case rel => exact ⟨k + 1, HLT.out, by go_num, HBN.out⟩
        case measure => have := HLT.out; simp [intOf]; omega
      · obtain rfl : k = l.length := by omega
        have HALL := Lib.hid (all_ref ((HE1.out.below HB3.out).below hb) (by have := HL.out; omega))
        have HBW := Lib.hid (HB3.out.trans (hb.mono HB3.out.size))
        have HOA : Hid (o.length = (allP l).length) := Lib.hid (by rw [HOL.out, ← HKS.out.all])
        clear hlt hk hb
        go_wp2_with fail
        refine (HALL.out).mono ?_
        rintro e w4 ⟨v4, rfl, hv4, _, hb4⟩
        obtain ⟨A4, c4, e4, _⟩ := hv4.form
        subst e4
        rw [← HOA.out]
        have HB4 := Lib.hid (HBW.out.trans (hb4.mono HBW.out.size))
        have HAW := Lib.hid (awake_any w4)
        clear hv4 hb4 HALL
        go_wp2_with fail
        refine (HAW.out).mono ?_
        rintro e w6 ⟨rfl, hb6⟩
        have HB6 := Lib.hid (HB4.out.trans (hb6.mono HB4.out.size))
        clear hb6 HAW
        go_wp2_with fail
        go_ret
        first | exact HB6.out | exact ⟨rfl, HB6.out⟩
end Go.Proofs.Ytmpjimoefjcmhaa
