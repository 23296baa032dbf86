/- lock: ask, walked. -/
import Derived.Test.YtmchmlkbpocboaaGreatDoorZLokS
set_option linter.unusedSimpArgs false
set_option linter.unusedVariables false
set_option linter.unnecessarySimpa false
namespace Go.Proofs.YtmchmlkbpocboaaGreatDoor
open Go.RowKit

def AskQ (w : World) (tb gl gw : Nat) (ro : Nat → Nat) (q : Int × Tb) (e : Ending) (w' : World) : Prop := TbTo w tb gl gw ro q.2 w' ∧ ErrC q.1 e w'
theorem TbTo.same {w w' : World} {tb gl gw : Nat} {L : List Le} {WT : List Wt} {ro : Nat → Nat} (h : TbAt w tb gl gw L WT ro) (hb : Below w.heap.size w w') : TbTo w tb gl gw ro (tbOf L WT) w' := ⟨L, WT, ro, h.below hb, rfl, (TStep.refl w ro).below hb⟩
theorem ErrC.below {code : Int} {e : Ending} {w w' : World} (h : ErrC code e w) (hb : Below w.heap.size w w') (hk : ∀ c v, ErrIs w c v → ErrIs w' c v) : ErrC code e w' := by
  rcases h with h | ⟨h, t, u, c, h1, h2, h3⟩
  · exact .inl h
  · exact .inr ⟨h, t, u, c, h1, hk _ _ h2, h3⟩
theorem askP_bad {T : Tb} {who : Int} {k : KeyT} {mine : Bool} (h : who < 1 ∨ 1073741824 < who ∨ 16 < k.length) : askP T who k mine = (2, T) := by
  unfold askP
  by_cases h1 : who < 1 ∨ 1073741824 < who
  · rw [if_pos h1]
  · rw [if_neg h1]
    have h2 : 16 < k.length := by
      rcases h with h | h | h
      · exact absurd (.inl h) h1
      · exact absurd (.inr h) h1
      · exact h
    rw [if_pos h2]
theorem askP_ok {T : Tb} {who : Int} {k : KeyT} {mine : Bool} (h : ¬ (who < 1 ∨ 1073741824 < who ∨ 16 < k.length)) : askP T who k mine = match waitP T who with
    | some h => (if h = (k, mine) then 20 else 9, T)
    | none => if (takeP ((laneP T k).getD ln0) ⟨who, mine⟩).2 then (0, setLane T k (takeP ((laneP T k).getD ln0) ⟨who, mine⟩).1) else (20, { setLane T k (takeP ((laneP T k).getD ln0) ⟨who, mine⟩).1 with waits := T.waits ++ [(who, (k, mine))] }) := by
  unfold askP
  rw [if_neg (fun e => h (e.elim .inl (fun e => .inr (.inl e)))), if_neg (fun e => h (.inr (.inr e)))]
  cases waitP T who with
  | some _ => rfl
  | none => rfl
/-- Behind a found or made lane, one has asked it: the table in plain words. -/
theorem take_to {w W W' : World} {tb gl gw : Nat} {L L' : List Le} {WT : List Wt} {ro ro' : Nat → Nat} {k : KeyT} {j : Nat} {x : Le} {q : Ln × Bool} {e : Ending} (hL : TbAt W tb gl gw L' WT ro') (hn : (L.map Le.key).Nodup) (hj : L'[j]? = some x) (hx : x.key = k) (hs : TStep w W ro ro') (hd : L' = L ∨ ((∀ e ∈ L, e.key ≠ k) ∧ L' = L ++ [x] ∧ x.l = ln0)) (hq : TakeP W x.b x.gh x.rv x.l q e W') :
    e = .returned (.bool q.2) ∧ ∃ L2 ro2, TbAt W' tb gl gw L2 WT ro2 ∧ tbOf L2 WT = setLane (tbOf L WT) k q.1 ∧ TStep w W' ro ro2 ∧ x.l = (laneP (tbOf L WT) k).getD ln0 := by
  obtain ⟨rv', rfl, h1, h2, h3⟩ := hq
  obtain ⟨ro2, h4, h5⟩ := hL.lane hj h2 h1 h3
  refine ⟨rfl, _, ro2, h4, ?_, hs.trans h5, ?_⟩
  · rcases hd with rfl | ⟨hno, rfl, hx0⟩
    · rw [← hx, setLane_set hL.nodup hj rv' q.1]
    · have hj2 : j = L.length := by
        by_cases hjl : j < L.length
        · rw [List.getElem?_append_left hjl] at hj
          exact absurd hx (hno x (List.mem_of_getElem? hj))
        · have := (List.getElem?_eq_some_iff.1 hj).1
          rw [List.length_append, List.length_singleton] at this
          omega
      have hnl : laneP (tbOf L WT) k = none := by
        rw [laneP_tb, Option.map_eq_none_iff, List.find?_eq_none]
        exact fun y hy => by simpa using hno y hy
      rw [setLane_more hnl x hx q.1 rv', hj2]
      simp
  · rcases hd with rfl | ⟨hno, rfl, hx0⟩
    · rw [← hx, laneP_at hL.nodup hj]; rfl
    · have hnl : laneP (tbOf L WT) k = none := by
        rw [laneP_tb, Option.map_eq_none_iff, List.find?_eq_none]
        exact fun y hy => by simpa using hno y hy
      rw [hnl, hx0]; rfl
set_option maxRecDepth 100000 in
set_option maxHeartbeats 4000000 in
theorem ask_any {w : World} {tb gl gw : Nat} {L : List Le} {WT : List Wt} {ro : Nat → Nat} (h : TbAt w tb gl gw L WT ro) (hf : Few 10000 L WT) (who : Int) (k : KeyT) (mine : Bool) (hw : InR64 who) (hk : k.length ≤ 1000) : Calls Tryz.prog 50 #[.pointer (some ⟨tb, 0, none⟩), .int .i64 who, holdV (k, mine)] w (AskQ w tb gl gw ro (askP (tbOf L WT) who k mine)) := by
  obtain ⟨Q, hQ⟩ : ∃ Q, askP (tbOf L WT) who k mine = Q := ⟨_, rfl⟩
  rw [hQ]
  have hsz : (⟨k.toArray⟩ : ByteArray).size = k.length := by simp [ByteArray.size]
  have hb1 := below_new (w := w) (.cells #[strV k, .bool mine] 43)
  have hx1 := alloc_at w (.cells #[strV k, .bool mine] 43)
  obtain ⟨w1, hw1⟩ : ∃ w1, w1 = w.alloc (.cells #[strV k, .bool mine] 43) := ⟨_, rfl⟩
  rw [← hw1] at hb1 hx1
  have HW1 := Lib.hid hw1
  have HB1 := Lib.hid hb1
  have HX1 := Lib.hid hx1
  have HT := Lib.hid h
  have HT1 := Lib.hid (h.below hb1)
  have HF := Lib.hid hf
  have HCH := Lib.hid (check_any (w := w1) who ⟨k.toArray⟩ hw (by rw [hsz]; unfold maxLen; omega))
  have c0 : w1.cell? ⟨w.heap.size, 0, none⟩ = some (strV k) := cell_of hx1 0
  have c0' := c0
  rw [hw1] at c0'
  unfold holdV
  have HK := Lib.hid hk
  have HW := Lib.hid hw
  have HQ := Lib.hid hQ
  have HSZ := Lib.hid hsz
  clear h hb1 hx1 hw1 hf hw hk hQ hsz
  have HSV : Hid (strV k = .string ⟨k.toArray⟩) := Lib.hid rfl
  go_enter Tryz.func50, Tryz.ntmps50
  go_wp2_with fail
  rw [← HW1.out]
  rw [HSV.out]
  refine (HCH.out).mono ?_
  rintro e w2 (⟨hbad, hek⟩ | ⟨hgood, rfl, rfl⟩)
  · have hq2 : Q = (2, tbOf L WT) := by rw [← HQ.out]; exact askP_bad (by rw [HSZ.out] at hbad; exact hbad)
    obtain ⟨hec, hb2⟩ := errk_c hek (by decide)
    obtain ⟨t, u, c, rfl, _⟩ := hek
    have HF2 : Hid (AskQ w tb gl gw ro Q (.returned (.iface t u)) w2) := Lib.hid (by
      rw [hq2]
      exact ⟨TbTo.same HT.out (HB1.out.trans (hb2.mono HB1.out.size)), hec⟩)
    clear hq2 hec hb2 hbad
    go_wp2_with fail
    refine bodyPost_ret (v := .iface t u) (by simp [results, Tryz.results50, go_sem]) rfl HF2.out
  · have hok := askP_ok (T := tbOf L WT) (mine := mine) (by rw [HSZ.out] at hgood; exact hgood)
    rw [HQ.out] at hok
    have t1 : w1.cell? ⟨tb, 1, none⟩ = some (.map (some gw)) := cell_of HT1.out.head 1
    obtain ⟨MW, cW, hmw, hmp⟩ := HT1.out.waits
    have hlook := waits_look hmw hmp L HW.out
    clear hmw hmp hgood
    cases hwt : waitP (tbOf L WT) who with
    | some v =>
      rw [hwt] at hlook hok
      replace hlook : (Instr.lookup 62 (.map (some gw)) (.int .i64 who) true).run Tryz.prog w1 = .ok (.tuple #[.agg #[.string ⟨v.1.toArray⟩, .bool v.2], .bool true]) w1 := hlook
      replace hok : Q = (if v = (k, mine) then 20 else 9, tbOf L WT) := hok
      have hb2 := below_new (w := w1) (.cells #[.string ⟨v.1.toArray⟩, .bool v.2] 43)
      have HAG := Lib.hid (again_any (w := w1.alloc (.cells #[.string ⟨v.1.toArray⟩, .bool v.2] 43)) v (k, mine))
      unfold holdV strV at HAG
      have e1 := (hb2.block _ (heap_lt HX1.out)).trans HX1.out
      have d0 : (w1.alloc (.cells #[.string ⟨v.1.toArray⟩, .bool v.2] 43)).cell? ⟨w.heap.size, 0, none⟩ = some (.string ⟨k.toArray⟩) := cell_of e1 0
      have d1 : (w1.alloc (.cells #[.string ⟨v.1.toArray⟩, .bool v.2] 43)).cell? ⟨w.heap.size, 1, none⟩ = some (.bool mine) := cell_of e1 1
      have HB2 := Lib.hid (HB1.out.trans (hb2.mono HB1.out.size))
      have HOK := Lib.hid hok
      clear hb2 e1 hok hwt c0 c0'
      go_wp2_with fail
      refine (HAG.out).mono ?_
      intro e w3 hek
      obtain ⟨hec, hb3⟩ := errk_c hek (by split <;> decide)
      obtain ⟨t, u, c, rfl, _⟩ := hek
      have HF2 : Hid (AskQ w tb gl gw ro Q (.returned (.iface t u)) w3) := Lib.hid (by
        rw [HOK.out]
        exact ⟨TbTo.same HT.out (HB2.out.trans (hb3.mono HB2.out.size)), hec⟩)
      clear hec hb3
      go_wp2_with fail
      refine bodyPost_ret (v := .iface t u) (by simp [results, Tryz.results50, go_sem]) rfl HF2.out
    | none =>
      rw [hwt] at hlook hok
      replace hlook : (Instr.lookup 62 (.map (some gw)) (.int .i64 who) true).run Tryz.prog w1 = .ok (.tuple #[.agg #[.string ⟨#[]⟩, .bool false], .bool false]) w1 := hlook
      have hb2 := below_new (w := w1) (.cells #[.string ⟨#[]⟩, .bool false] 43)
      obtain ⟨w2, hw2⟩ : ∃ w2, w2 = w1.alloc (.cells #[.string ⟨#[]⟩, .bool false] 43) := ⟨_, rfl⟩
      rw [← hw2] at hb2
      have HW2 := Lib.hid hw2
      have HB2 := Lib.hid (HB1.out.trans (hb2.mono HB1.out.size))
      have hx2 := (hb2.block _ (heap_lt HX1.out)).trans HX1.out
      have HX2 := Lib.hid hx2
      have HT2 := Lib.hid ((HT.out.below HB2.out).below (below_drew (Below.refl _ _)))
      have HLA := Lib.hid (lane_any HT2.out HK.out)
      have HOK := Lib.hid hok
      have HWT := Lib.hid hwt
      have HN := Lib.hid HT.out.nodup
      have HROB : Hid (ro w.heap.size = 0) := Lib.hid (by
        by_cases e : ro w.heap.size = 0
        · exact e
        · have := HT.out.lt _ e; omega)
      have p0 : w2.drew.cell? ⟨w.heap.size, 0, none⟩ = some (strV k) := cell_of hx2 0
      have p1 : w2.drew.cell? ⟨w.heap.size, 1, none⟩ = some (.bool mine) := cell_of hx2 1
      clear hb2 hx2 hok hwt c0 c0' hw2
      rw [HSV.out] at p0 HLA
      go_wp2_with fail
      rw [← HW2.out]
      refine wp_region_held_drew (S := fun W => W.cell? ⟨w.heap.size, 0, none⟩ = some (.string ⟨k.toArray⟩) ∧ W.cell? ⟨w.heap.size, 1, none⟩ = some (.bool mine)) (by kernel_rfl) ⟨p0, p1⟩ (fun hHeld => ?_)
      refine wpAnyH_take (i := 0) (oi := { dst := some 30, op := Op.move (Operand.tmp 0), type := 23, pos := "lock.go:87", after := #[], guard := none }) (v := ?vv1) rfl (by kernel_rfl) (by kernel_rfl) (by kernel_rfl) (fun _ _ _ h => h) ?hy1 (by assumption) ?rest1
      case hy1 => (refine Or.inl ⟨by rfl, ?_⟩; intro W hSw; (try dsimp only at hSw); go_simp; (try with_reducible rfl))
      try simp only [Act.put, List.setIfInBounds_toArray, List.set_cons_zero, List.set_cons_succ]
      refine wpAnyH_take (i := 1) (oi := { dst := some 31, op := Op.fieldAddr 43 (Operand.tmp 5) 0, type := 0, pos := "lock.go:87", after := #[], guard := none }) (v := ?vv2) rfl (by kernel_rfl) (by kernel_rfl) (by kernel_rfl) (fun _ _ _ h => h) ?hy2 (by assumption) ?rest2
      case hy2 => (refine Or.inl ⟨by rfl, ?_⟩; intro W hSw; (try dsimp only at hSw); go_simp; (try with_reducible rfl))
      try simp only [Act.put, List.setIfInBounds_toArray, List.set_cons_zero, List.set_cons_succ]
      refine wpAnyH_take (i := 2) (oi := { dst := some 32, op := Op.load 9 (Operand.tmp 31), type := 9, pos := "lock.go:87", after := #[{ on := 1, ground := Ground.data }], guard := none }) (v := ?vv3) rfl (by kernel_rfl) (by kernel_rfl) (by kernel_rfl) (fun _ _ _ h => h) ?hy3 (by assumption) ?rest3
      case hy3 => (refine Or.inl ⟨by rfl, ?_⟩; intro W hSw; (try dsimp only at hSw); go_simp; (try with_reducible rfl))
      try simp only [Act.put, List.setIfInBounds_toArray, List.set_cons_zero, List.set_cons_succ]
      refine wpAnyH_take (i := 4) (oi := { dst := some 34, op := Op.move (Operand.tmp 1), type := 3, pos := "lock.go:87", after := #[], guard := none }) (v := ?vv4) rfl (by kernel_rfl) (by kernel_rfl) (by kernel_rfl) (fun _ _ _ h => h) ?hy4 (by assumption) ?rest4
      case hy4 => (refine Or.inl ⟨by rfl, ?_⟩; intro W hSw; (try dsimp only at hSw); go_simp; (try with_reducible rfl))
      try simp only [Act.put, List.setIfInBounds_toArray, List.set_cons_zero, List.set_cons_succ]
      refine wpAnyH_take (i := 5) (oi := { dst := some 35, op := Op.fieldAddr 43 (Operand.tmp 5) 1, type := 0, pos := "lock.go:87", after := #[], guard := none }) (v := ?vv5) rfl (by kernel_rfl) (by kernel_rfl) (by kernel_rfl) (fun _ _ _ h => h) ?hy5 (by assumption) ?rest5
      case hy5 => (refine Or.inl ⟨by rfl, ?_⟩; intro W hSw; (try dsimp only at hSw); go_simp; (try with_reducible rfl))
      try simp only [Act.put, List.setIfInBounds_toArray, List.set_cons_zero, List.set_cons_succ]
      refine wpAnyH_take (i := 6) (oi := { dst := some 36, op := Op.load 4 (Operand.tmp 35), type := 4, pos := "lock.go:87", after := #[{ on := 5, ground := Ground.data }], guard := none }) (v := ?vv6) rfl (by kernel_rfl) (by kernel_rfl) (by kernel_rfl) (fun _ _ _ h => h) ?hy6 (by assumption) ?rest6
      case hy6 => (refine Or.inl ⟨by rfl, ?_⟩; intro W hSw; (try dsimp only at hSw); go_simp; (try with_reducible rfl))
      try simp only [Act.put, List.setIfInBounds_toArray, List.set_cons_zero, List.set_cons_succ]
      refine wpAnyH_take (i := 7) (oi := { dst := some 37, op := Op.build 106 #[(0, Operand.tmp 34), (1, Operand.tmp 36)], type := 106, pos := "lock.go:87", after := #[{ on := 4, ground := Ground.data }, { on := 6, ground := Ground.data }], guard := none }) (v := ?vv7) rfl (by kernel_rfl) (by kernel_rfl) (by kernel_rfl) (fun _ _ _ h => h) ?hy7 (by assumption) ?rest7
      case hy7 => (refine Or.inl ⟨by rfl, ?_⟩; intro W hSw; (try dsimp only at hSw); go_simp; (try with_reducible rfl))
      try simp only [Act.put, List.setIfInBounds_toArray, List.set_cons_zero, List.set_cons_succ]
      refine wpAnyH_ready (rs := [3]) (by kernel_rfl) (by simp) ?_
      refine AllReadyH.cons (o := { dst := some 33, op := Op.call { callee := Callee.value (Operand.func 75), args := #[Operand.tmp 30, Operand.tmp 32], argTypes := #[23, 9] }, type := 71, pos := "lock.go:87", after := #[{ on := 0, ground := Ground.data }, { on := 2, ground := Ground.data }], guard := none }) rfl (fun K hK => ?step8) ?more8
      case more8 => exact AllReadyH.nil
      ((go_simp; go_at_call 75; refine (HLA.out).mono ?_; rintro e w3 ⟨L3, ro3, j, x, rfl, ht3, hj3, hx3, hs3, hd3⟩; unfold Le.ptr; go_wp2_with fail))
      refine hK.out _ _ ?hS8 (fun hHeld => ?rr8)
      case hS8 => (exact ⟨cell_of ((hs3.touch.block _ (heap_lt HX2.out) (fun e => e HROB.out)).trans HX2.out) 0, cell_of ((hs3.touch.block _ (heap_lt HX2.out) (fun e => e HROB.out)).trans HX2.out) 1⟩)
      clear hK K
      try simp only [Act.put, List.setIfInBounds_toArray, List.set_cons_zero, List.set_cons_succ]
      have HT3 := Lib.hid ht3
      have HS3 := Lib.hid hs3
      have HJ3 := Lib.hid (And.intro hj3 (And.intro hx3 hd3))
      have hx3b := (hs3.touch.block _ (heap_lt HX2.out) (fun e => e HROB.out)).trans HX2.out
      have HX3 := Lib.hid hx3b
      have hlen : x.l.held.length ≤ 100000 ∧ x.l.row.length ≤ 100000 := by
        rcases hd3 with rfl | ⟨_, _, h0⟩
        · have h1 := HF.out.2.2 x (List.mem_of_getElem? hj3)
          omega
        · rw [h0]; simp [ln0]
      have HTA := Lib.hid (take_any (c := ⟨who, mine⟩) (ht3.ln x (List.mem_of_getElem? hj3)) HW.out hlen.1 hlen.2)
      obtain ⟨q, hq⟩ : ∃ q, takeP x.l ⟨who, mine⟩ = q := ⟨_, rfl⟩
      rw [hq] at HTA
      have HQQ := Lib.hid hq
      clear hq
      obtain ⟨ql, qb⟩ := q
      have HR3 : Hid (ro3 w.heap.size = 0) := Lib.hid ((hs3.old _ (heap_lt HX2.out)).trans HROB.out)
      have HXB : Hid (∀ k, (k = x.b ∨ k = x.gh ∨ x.rv.ownBlock = some k) → ro3 k ≠ 0) := Lib.hid (fun k hk => by
        have hr := ht3.rn x (List.mem_of_getElem? hj3)
        rcases hk with rfl | rfl | hk
        · omega
        · omega
        · have := hr.2.2 k hk; omega)
      clear ht3 hs3 hj3 hx3 hd3 hlen hx3b
      refine wpAnyH_ready (rs := [8]) (by kernel_rfl) (by simp) ?_
      refine AllReadyH.cons (o := { dst := some 38, op := Op.call { callee := Callee.value (Operand.func 76), args := #[Operand.tmp 33, Operand.tmp 37], argTypes := #[71, 106] }, type := 4, pos := "lock.go:87", after := #[{ on := 3, ground := Ground.data }, { on := 7, ground := Ground.data }, { on := 3, ground := Ground.chain }], guard := none }) rfl (fun K hK => ?step9) ?more9
      case more9 => exact AllReadyH.nil
      ((go_simp; go_at_call 76; refine (HTA.out).mono ?_; intro e w4 hq4; obtain ⟨he4, L4, ro4, ht4, hp4, hs4, hl4⟩ := take_to HT3.out HN.out HJ3.out.1 HJ3.out.2.1 HS3.out HJ3.out.2.2 hq4; have htc4 : Touch (fun k => k = x.b ∨ k = x.gh ∨ x.rv.ownBlock = some k) w3 w4 := (by obtain ⟨_, _, _, h9, _⟩ := hq4; exact h9); rw [he4]; go_wp2_with fail))
      refine hK.out _ _ ?hS9 (fun hHeld => ?rr9)
      case hS9 => (exact ⟨cell_of ((htc4.block _ (heap_lt HX3.out) (fun e => HXB.out _ e HR3.out)).trans HX3.out) 0, cell_of ((htc4.block _ (heap_lt HX3.out) (fun e => HXB.out _ e HR3.out)).trans HX3.out) 1⟩)
      clear hK K
      try simp only [Act.put, List.setIfInBounds_toArray, List.set_cons_zero, List.set_cons_succ]
      have hx4 := (htc4.block _ (heap_lt HX3.out) (fun e => HXB.out _ e HR3.out)).trans HX3.out
      have HX4 := Lib.hid hx4
      have HT4 := Lib.hid ht4
      have HP4 := Lib.hid hp4
      have HS4 := Lib.hid (TStep.ahead (below_drew HB2.out) hs4)
      have HR4 : Hid (ro4 w.heap.size = 0) := Lib.hid ((hs4.old _ (heap_lt HX2.out)).trans HROB.out)
      have hok2 := HOK.out
      rw [← hl4, HQQ.out] at hok2
      clear hq4 he4 ht4 hp4 hs4 hl4 htc4 hx4
      refine wpAnyH_take (i := 9) (oi := { dst := some 39, op := Op.unOp UnOp.not 4 (Operand.tmp 38), type := 4, pos := "lock.go:87", after := #[{ on := 8, ground := Ground.data }], guard := none }) (v := ?vv10) rfl (by kernel_rfl) (by kernel_rfl) (by kernel_rfl) (fun _ _ _ h => h) ?hy10 (by assumption) ?rest10
      case hy10 => (refine Or.inl ⟨by rfl, ?_⟩; intro W hSw; (try dsimp only at hSw); go_simp; (try with_reducible rfl))
      try simp only [Act.put, List.setIfInBounds_toArray, List.set_cons_zero, List.set_cons_succ]
      refine wpAnyH_done (by kernel_rfl) ?_ _
      clear hHeld
      cases qb with
      | true =>
        have HF2 : Hid (AskQ w tb gl gw ro Q (.returned .nilIface) w4) := Lib.hid (by
          rw [hok2]
          exact ⟨⟨L4, WT, ro4, HT4.out, HP4.out, HS4.out⟩, .inl ⟨rfl, rfl⟩⟩)
        clear hok2
        go_wp2_with fail
        refine bodyPost_ret (v := .nilIface) (by simp [results, Tryz.results50, go_sem]) rfl HF2.out
      | false =>
        have HOK2 := Lib.hid hok2
        have hno4 : waitP (tbOf L4 WT) who = none := HWT.out
        obtain ⟨w5, hput, ht5, htt5⟩ := (HT4.out.below (below_drew (Below.refl _ _))).wait HW.out hno4 (k, mine)
        have hx5 := (htt5.block _ (heap_lt HX4.out) (fun e => by have h7 := HT4.out.rw; rw [← e, HR4.out] at h7; cases h7)).trans HX4.out
        have u0 : w4.drew.cell? ⟨tb, 1, none⟩ = some (.map (some gw)) := cell_of HT4.out.head 1
        have u1 : w4.drew.cell? ⟨w.heap.size, 0, none⟩ = some (.string ⟨k.toArray⟩) := cell_of HX4.out 0
        have u2 : w4.drew.cell? ⟨w.heap.size, 1, none⟩ = some (.bool mine) := cell_of HX4.out 1
        have HU5 : Hid (w5.cell? ⟨tb, 1, none⟩ = some (.map (some gw)) ∧ w5.cell? ⟨w.heap.size, 0, none⟩ = some (.string ⟨k.toArray⟩) ∧ w5.cell? ⟨w.heap.size, 1, none⟩ = some (.bool mine)) := Lib.hid ⟨cell_of ht5.head 1, cell_of hx5 0, cell_of hx5 1⟩
        have HBU := Lib.hid (busy_any (w := w5) ⟨k.toArray⟩ mine)
        have HS5 : Hid (TStep w w5 ro ro4) := Lib.hid (HS4.out.trans ⟨(below_drew (Below.refl _ w4) |> Touch.of_below).trans htt5 (fun i _ e => by rw [e, HT4.out.rw]; decide), fun _ _ => rfl⟩)
        have HT5 := Lib.hid ht5
        have hput' : (Instr.mapUpdate 62 (.map (some gw)) (.int .i64 who) (.agg #[.string ⟨k.toArray⟩, .bool mine])).run Tryz.prog w4.drew = .ok () w5 := hput
        obtain ⟨v0, v1, v2⟩ := HU5.out
        clear hok2 hno4 hput ht5 htt5 hx5
        go_wp2_with fail
        refine wp_region_held_drew (S := fun W => W.cell? ⟨tb, 1, none⟩ = some (.map (some gw)) ∧ W.cell? ⟨w.heap.size, 0, none⟩ = some (.string ⟨k.toArray⟩) ∧ W.cell? ⟨w.heap.size, 1, none⟩ = some (.bool mine)) (by kernel_rfl) ⟨u0, u1, u2⟩ (fun hHeld => ?_)
        refine wpAnyH_take (i := 0) (oi := { dst := some 40, op := Op.move (Operand.tmp 0), type := 23, pos := "lock.go:88", after := #[], guard := none }) (v := ?vv11) rfl (by kernel_rfl) (by kernel_rfl) (by kernel_rfl) (fun _ _ _ h => h) ?hy11 (by assumption) ?rest11
        case hy11 => (refine Or.inl ⟨by rfl, ?_⟩; intro W hSw; (try dsimp only at hSw); go_simp; (try with_reducible rfl))
        try simp only [Act.put, List.setIfInBounds_toArray, List.set_cons_zero, List.set_cons_succ]
        refine wpAnyH_take (i := 1) (oi := { dst := some 41, op := Op.nilCheck (Operand.tmp 40), type := 0, pos := "lock.go:88", after := #[{ on := 0, ground := Ground.data }], guard := none }) (v := ?vv12) rfl (by kernel_rfl) (by kernel_rfl) (by kernel_rfl) (fun _ _ _ h => h) ?hy12 (by assumption) ?rest12
        case hy12 => (refine Or.inl ⟨by rfl, ?_⟩; intro W hSw; (try dsimp only at hSw); go_simp; (try with_reducible rfl))
        try simp only [Act.put, List.setIfInBounds_toArray, List.set_cons_zero, List.set_cons_succ]
        refine wpAnyH_take (i := 2) (oi := { dst := some 42, op := Op.fieldAddr 64 (Operand.tmp 41) 1, type := 0, pos := "lock.go:88", after := #[{ on := 1, ground := Ground.data }], guard := none }) (v := ?vv13) rfl (by kernel_rfl) (by kernel_rfl) (by kernel_rfl) (fun _ _ _ h => h) ?hy13 (by assumption) ?rest13
        case hy13 => (refine Or.inl ⟨by rfl, ?_⟩; intro W hSw; (try dsimp only at hSw); go_simp; (try with_reducible rfl))
        try simp only [Act.put, List.setIfInBounds_toArray, List.set_cons_zero, List.set_cons_succ]
        refine wpAnyH_take (i := 3) (oi := { dst := some 43, op := Op.load 62 (Operand.tmp 42), type := 62, pos := "lock.go:88", after := #[{ on := 2, ground := Ground.data }], guard := none }) (v := ?vv14) rfl (by kernel_rfl) (by kernel_rfl) (by kernel_rfl) (fun _ _ _ h => h) ?hy14 (by assumption) ?rest14
        case hy14 => (refine Or.inl ⟨by rfl, ?_⟩; intro W hSw; (try dsimp only at hSw); go_simp; (try with_reducible rfl))
        try simp only [Act.put, List.setIfInBounds_toArray, List.set_cons_zero, List.set_cons_succ]
        refine wpAnyH_take (i := 4) (oi := { dst := some 44, op := Op.move (Operand.tmp 1), type := 3, pos := "lock.go:88", after := #[], guard := none }) (v := ?vv15) rfl (by kernel_rfl) (by kernel_rfl) (by kernel_rfl) (fun _ _ _ h => h) ?hy15 (by assumption) ?rest15
        case hy15 => (refine Or.inl ⟨by rfl, ?_⟩; intro W hSw; (try dsimp only at hSw); go_simp; (try with_reducible rfl))
        try simp only [Act.put, List.setIfInBounds_toArray, List.set_cons_zero, List.set_cons_succ]
        refine wpAnyH_take (i := 5) (oi := { dst := some 45, op := Op.load 43 (Operand.tmp 5), type := 43, pos := "lock.go:88", after := #[], guard := none }) (v := ?vv16) rfl (by kernel_rfl) (by kernel_rfl) (by kernel_rfl) (fun _ _ _ h => h) ?hy16 (by assumption) ?rest16
        case hy16 => (refine Or.inl ⟨by rfl, ?_⟩; intro W hSw; (try dsimp only at hSw); go_simp; (try with_reducible rfl))
        try simp only [Act.put, List.setIfInBounds_toArray, List.set_cons_zero, List.set_cons_succ]
        refine wpAnyH_ready (rs := [6]) (by kernel_rfl) (by simp) ?_
        refine AllReadyH.cons (o := { dst := none, op := Op.mapUpdate 62 (Operand.tmp 43) (Operand.tmp 44) (Operand.tmp 45), type := 0, pos := "lock.go:88", after := #[{ on := 3, ground := Ground.data }, { on := 4, ground := Ground.data }, { on := 5, ground := Ground.data }, { on := 0, ground := Ground.phase }, { on := 1, ground := Ground.phase }, { on := 2, ground := Ground.phase }, { on := 3, ground := Ground.phase }, { on := 4, ground := Ground.phase }, { on := 5, ground := Ground.phase }], guard := none }) rfl (fun K hK => ?step17) ?more17
        case more17 => exact AllReadyH.nil
        ((go_simp))
        refine hK.out _ _ ?hS17 (fun hHeld => ?rr17)
        case hS17 => (exact HU5.out)
        clear hK K
        try simp only [Act.put, List.setIfInBounds_toArray, List.set_cons_zero, List.set_cons_succ]
        refine wpAnyH_done (by kernel_rfl) ?_ _
        clear hHeld hput' u0 u1 u2
        go_wp2_with fail
        refine (HBU.out).mono ?_
        intro e w6 hek
        obtain ⟨hec, hb6⟩ := errk_c hek (by decide)
        obtain ⟨t, u, c, rfl, _⟩ := hek
        have HF2 : Hid (AskQ w tb gl gw ro Q (.returned (.iface t u)) w6) := Lib.hid (by
          rw [HOK2.out]
          refine ⟨⟨L4, WT ++ [(who, (k, mine))], ro4, HT5.out.below hb6, ?_, HS5.out.below hb6⟩, hec⟩
          show _ = ({ setLane (tbOf L WT) k ql with waits := (tbOf L WT).waits ++ [(who, (k, mine))] } : Tb)
          rw [← HP4.out]; rfl)
        clear hec hb6
        go_wp2_with fail
        refine bodyPost_ret (v := .iface t u) (by simp [results, Tryz.results50, go_sem]) rfl HF2.out
end Go.Proofs.YtmchmlkbpocboaaGreatDoor
