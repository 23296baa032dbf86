/- order: users in turn: one number each, with all their sites, each once. -/
import Derived.Test.YtlbhpeeggbfcpaaZOrdE
set_option linter.unusedSimpArgs false
set_option linter.unusedVariables false
set_option linter.unnecessarySimpa false
namespace Go.Proofs.Ytlbhpeeggbfcpaa
open Go.RowKit
open Go.Maps (Keyed)

set_option maxRecDepth 100000 in
set_option maxHeartbeats 2000000 in
theorem inTurn_any {w : World} {v : Value} {T : Gr} (h : UIs w v T) (hl : T.length ≤ 100) (hs : ∀ u ∈ T, u.2.length ≤ 100) (hn : ∀ u ∈ T, InR64 u.1) : Calls Try.prog 24 #[v] w fun e w' => ∃ v', e = .returned v' ∧ UIs w' v' (turnT T) ∧ Below w.heap.size w w' := by
  obtain ⟨A, cap, rfl, h1, h2, h3⟩ := id h
  have HU := Lib.hid h
  unfold maxLen at h2
  have hlI : (T.length : Int) ≤ 100 := by omega
  have HM0 : Hid (GAt Try.prog 3 (w.alloc (.map #[] 0)) w.heap.size w.heap.size [] [] 0) := Lib.hid (GAt.made Try.prog 3 w (Nat.le_refl _))
  have HB0 := Lib.hid (below_new (w := w) (.map #[] 0))
  have hmm := @run_makeMap Try.prog
  clear h h3
  go_enter Try.func24, Try.ntmps24
  go_wp2_with fail
  go_loopw [12] (fun iv wr => ∃ (k : Nat) (L : List MapEntry) (clock : Nat), k ≤ T.length ∧ iv = .int .i64 k ∧ GAt Try.prog 3 wr w.heap.size w.heap.size (siteG (T.take k)) L clock ∧ Below w.heap.size w wr) (fun iv _ => T.length - (intOf iv).toNat)
  case atStart => exact ⟨0, [], 0, Nat.zero_le _, rfl, HM0.out, HB0.out⟩
  case round =>
    obtain ⟨k, L, clock, hk, rfl, hg, hb⟩ := hrel
    have HG := Lib.hid hg
    have HB := Lib.hid hb
    clear hg
    by_cases hlt : k < T.length
    · have hx : T[k]? = some T[k] := List.getElem?_eq_getElem hlt
      have hsl := hs _ (List.getElem_mem hlt)
      have hnn := hn _ (List.getElem_mem hlt)
      generalize T[k] = u at hx hsl hnn
      obtain ⟨A', cap', e', _, _, h3⟩ := HU.out.below hb
      injection e' with e1 _ e3
      subst e1 e3
      obtain ⟨a, sv, rfl, ha, k0, k1, hsv⟩ := h3 k u hx
      obtain ⟨g, ss⟩ := u
      obtain ⟨B, scap, rfl, hs1, hs2, _⟩ := id hsv
      have hi : (k : Int) < (T.length : Int) := by omega
      have k1' : wr.cell? ⟨(a.add (k * 2)).block, (a.add (k * 2)).off + 1, none⟩ = some (.slice B ss.length scap) := k1
      have HST := Lib.hid (site_take hx)
      have HLT := Lib.hid hlt
      have HSV := Lib.hid hsv
      have HL : Hid ((at_ (siteG (T.take k)) g).length + ss.length ≤ 16777000) := Lib.hid (by
        have h1 := site_len (m := 100) (T.take k) (fun u hu => hs u (List.mem_of_mem_take hu)) g
        rw [List.length_take] at h1
        have : min k T.length * 100 ≤ 10000 := by omega
        have : ss.length ≤ 100 := hsl
        omega)
      clear h3 hx hsv hs1 hs2 hk k1 hsl
      go_wp2_with fail
      obtain ⟨v0, hv0, hlk, hown0, hput⟩ := HG.out.bump keyedI Try.underlying64 zeroI (keyI hnn) HB.out.size
      have hat := alloc_at wr (.cells #[.int .i64 g, .slice B ss.length scap] 61)
      have s0 := cell_of hat 0
      have s1 := cell_of hat 1
      have hb9 := below_new (w := wr) (.cells #[.int .i64 g, .slice B ss.length scap] 61)
      generalize hW : wr.alloc (.cells #[.int .i64 g, .slice B ss.length scap] 61) = W9 at *
      have hD : Below wr.heap.size wr W9.drew := below_drew hb9
      obtain ⟨v1, w1, hr1, hrow1, ht1, ho1⟩ := app_sis (w := W9.drew) 30 (hv0.below hD) (HSV.out.below hD) HL.out
      have hv1 : ∀ k, v1.ownBlock = some k → v0.ownBlock = some k ∨ wr.heap.size ≤ k := fun k hk => (ho1 k hk).imp id (fun h => by have := hD.size; omega)
      have ht1' : Touch (fun k => v0.ownBlock = some k) wr w1 := Touch.ahead hD ht1
      obtain ⟨w2, L2, clock2, hr2, hg2, ht2⟩ := hput w1 v1 _ ht1' hrow1 hv1
      have lk0 := (hlk _ hD).1
      have hbw2 : Below w.heap.size w w2 := HB.out.trans ((ht1'.below (fun i e => (hown0 i e).1) HB.out.size).trans (ht2.below (fun i e => Nat.le_of_eq e.symm) (Nat.le_trans HB.out.size ht1'.size)))
      have hblk : wr.heap.size < W9.heap.size := by rw [← hW, asz]; omega
      have hne0 : v0.ownBlock ≠ some wr.heap.size := fun e => by have := hv0.lt _ e; omega
      have hb1 : w1.heap[wr.heap.size]? = W9.heap[wr.heap.size]? := (ht1.block _ hblk hne0).trans rfl
      have hb2 : w2.heap[wr.heap.size]? = w1.heap[wr.heap.size]? := ht2.block _ (Nat.lt_of_lt_of_le hblk ht1.size) (fun e => by have := HG.out.map.lt; omega)
      have c1 : w1.cell? ⟨wr.heap.size, 0, none⟩ = some (.int .i64 g) ∧ w1.cell? ⟨wr.heap.size, 1, none⟩ = some (.slice B ss.length scap) := ⟨(World.cell?_of_block (a := ⟨_, 0, none⟩) hb1).trans s0, (World.cell?_of_block (a := ⟨_, 1, none⟩) hb1).trans s1⟩
      have c2 : w2.cell? ⟨wr.heap.size, 0, none⟩ = some (.int .i64 g) ∧ w2.cell? ⟨wr.heap.size, 1, none⟩ = some (.slice B ss.length scap) := ⟨(World.cell?_of_block (a := ⟨_, 0, none⟩) hb2).trans c1.1, (World.cell?_of_block (a := ⟨_, 1, none⟩) hb2).trans c1.2⟩
      have HG2 := Lib.hid hg2
      have HB2 := Lib.hid hbw2
      clear hg2 hbw2 ht2 ht1 ht1' ho1 hv1 hrow1 hlk hput hown0 hv0 hb hb1 hb2 hne0 hblk
      refine wp_region_held_drew (S := fun W => W.cell? ⟨wr.heap.size, 0, none⟩ = some (.int .i64 g) ∧ W.cell? ⟨wr.heap.size, 1, none⟩ = some (.slice B ss.length scap)) (by kernel_rfl) ⟨s0, s1⟩ (fun hHeld => ?_)
      refine wpAnyH_take (i := 0) (oi := { dst := some 16, op := Op.move (Operand.tmp 3), type := 64, pos := "order.go:63", after := #[], guard := none }) (v := ?vv1) rfl (by kernel_rfl) (by kernel_rfl) (by kernel_rfl) (fun _ _ _ h => h) ?hy1 (by assumption) ?rest1
      case hy1 => (refine Or.inl ⟨by rfl, ?_⟩; intro W hSw; (try dsimp only at hSw); go_simp; (try with_reducible rfl))
      try simp only [Act.put, List.setIfInBounds_toArray, List.set_cons_zero, List.set_cons_succ]
      refine wpAnyH_take (i := 1) (oi := { dst := some 17, op := Op.fieldAddr 61 (Operand.tmp 5) 0, type := 0, pos := "order.go:63", after := #[], guard := none }) (v := ?vv2) rfl (by kernel_rfl) (by kernel_rfl) (by kernel_rfl) (fun _ _ _ h => h) ?hy2 (by assumption) ?rest2
      case hy2 => (refine Or.inl ⟨by rfl, ?_⟩; intro W hSw; (try dsimp only at hSw); go_simp; (try with_reducible rfl))
      try simp only [Act.put, List.setIfInBounds_toArray, List.set_cons_zero, List.set_cons_succ]
      refine wpAnyH_take (i := 2) (oi := { dst := some 18, op := Op.load 3 (Operand.tmp 17), type := 3, pos := "order.go:63", after := #[{ on := 1, ground := Ground.data }], guard := none }) (v := ?vv3) rfl (by kernel_rfl) (by kernel_rfl) (by kernel_rfl) (fun _ _ _ h => h) ?hy3 (by assumption) ?rest3
      case hy3 => (refine Or.inl ⟨by rfl, ?_⟩; intro W hSw; (try dsimp only at hSw); go_simp; (try with_reducible rfl))
      try simp only [Act.put, List.setIfInBounds_toArray, List.set_cons_zero, List.set_cons_succ]
      refine wpAnyH_take (i := 3) (oi := { dst := some 19, op := Op.move (Operand.tmp 3), type := 64, pos := "order.go:63", after := #[], guard := none }) (v := ?vv4) rfl (by kernel_rfl) (by kernel_rfl) (by kernel_rfl) (fun _ _ _ h => h) ?hy4 (by assumption) ?rest4
      case hy4 => (refine Or.inl ⟨by rfl, ?_⟩; intro W hSw; (try dsimp only at hSw); go_simp; (try with_reducible rfl))
      try simp only [Act.put, List.setIfInBounds_toArray, List.set_cons_zero, List.set_cons_succ]
      refine wpAnyH_take (i := 4) (oi := { dst := some 20, op := Op.fieldAddr 61 (Operand.tmp 5) 0, type := 0, pos := "order.go:63", after := #[], guard := none }) (v := ?vv5) rfl (by kernel_rfl) (by kernel_rfl) (by kernel_rfl) (fun _ _ _ h => h) ?hy5 (by assumption) ?rest5
      case hy5 => (refine Or.inl ⟨by rfl, ?_⟩; intro W hSw; (try dsimp only at hSw); go_simp; (try with_reducible rfl))
      try simp only [Act.put, List.setIfInBounds_toArray, List.set_cons_zero, List.set_cons_succ]
      refine wpAnyH_take (i := 5) (oi := { dst := some 21, op := Op.load 3 (Operand.tmp 20), type := 3, pos := "order.go:63", after := #[{ on := 4, ground := Ground.data }], guard := none }) (v := ?vv6) rfl (by kernel_rfl) (by kernel_rfl) (by kernel_rfl) (fun _ _ _ h => h) ?hy6 (by assumption) ?rest6
      case hy6 => (refine Or.inl ⟨by rfl, ?_⟩; intro W hSw; (try dsimp only at hSw); go_simp; (try with_reducible rfl))
      try simp only [Act.put, List.setIfInBounds_toArray, List.set_cons_zero, List.set_cons_succ]
      refine wpAnyH_take (i := 7) (oi := { dst := some 23, op := Op.fieldAddr 61 (Operand.tmp 5) 1, type := 0, pos := "order.go:63", after := #[], guard := none }) (v := ?vv7) rfl (by kernel_rfl) (by kernel_rfl) (by kernel_rfl) (fun _ _ _ h => h) ?hy7 (by assumption) ?rest7
      case hy7 => (refine Or.inl ⟨by rfl, ?_⟩; intro W hSw; (try dsimp only at hSw); go_simp; (try with_reducible rfl))
      try simp only [Act.put, List.setIfInBounds_toArray, List.set_cons_zero, List.set_cons_succ]
      refine wpAnyH_take (i := 8) (oi := { dst := some 24, op := Op.load 30 (Operand.tmp 23), type := 30, pos := "order.go:63", after := #[{ on := 7, ground := Ground.data }], guard := none }) (v := ?vv8) rfl (by kernel_rfl) (by kernel_rfl) (by kernel_rfl) (fun _ _ _ h => h) ?hy8 (by assumption) ?rest8
      case hy8 => (refine Or.inl ⟨by rfl, ?_⟩; intro W hSw; (try dsimp only at hSw); go_simp; (try with_reducible rfl))
      try simp only [Act.put, List.setIfInBounds_toArray, List.set_cons_zero, List.set_cons_succ]
      refine wpAnyH_ready (rs := [6]) (by kernel_rfl) (by simp) ?_
      refine AllReadyH.cons (o := { dst := some 22, op := Op.lookup 64 (Operand.tmp 19) (Operand.tmp 21) false, type := 30, pos := "order.go:63", after := #[{ on := 3, ground := Ground.data }, { on := 5, ground := Ground.data }], guard := none }) rfl (fun K hK => ?step9) ?more9
      case more9 => exact AllReadyH.nil
      (refine step_look_run lk0 rfl (.tmp 19) (.tmp 21) rfl rfl rfl ?_)
      refine hK.out _ _ ?hS9 (fun hHeld => ?rr9)
      case hS9 => (exact ⟨s0, s1⟩)
      clear hK K
      try simp only [Act.put, List.setIfInBounds_toArray, List.set_cons_zero, List.set_cons_succ]
      refine wpAnyH_ready (rs := [9]) (by kernel_rfl) (by simp) ?_
      refine AllReadyH.cons (o := { dst := some 25, op := Op.call { callee := Callee.builtin Builtin.append, args := #[Operand.tmp 22, Operand.tmp 24], argTypes := #[30, 30] }, type := 30, pos := "order.go:63", after := #[{ on := 6, ground := Ground.data }, { on := 8, ground := Ground.data }], guard := none }) rfl (fun K hK => ?step10) ?more10
      case more10 => exact AllReadyH.nil
      (refine step_app_run hr1 rfl (.tmp 22) (.tmp 24) rfl rfl rfl ?_)
      refine hK.out _ _ ?hS10 (fun hHeld => ?rr10)
      case hS10 => (exact c1)
      clear hK K
      try simp only [Act.put, List.setIfInBounds_toArray, List.set_cons_zero, List.set_cons_succ]
      refine wpAnyH_ready (rs := [10]) (by kernel_rfl) (by simp) ?_
      refine AllReadyH.cons (o := { dst := none, op := Op.mapUpdate 64 (Operand.tmp 16) (Operand.tmp 18) (Operand.tmp 25), type := 0, pos := "order.go:63", after := #[{ on := 0, ground := Ground.data }, { on := 2, ground := Ground.data }, { on := 9, ground := Ground.data }, { on := 9, ground := Ground.chain }, { on := 0, ground := Ground.phase }, { on := 1, ground := Ground.phase }, { on := 2, ground := Ground.phase }, { on := 3, ground := Ground.phase }, { on := 4, ground := Ground.phase }, { on := 5, ground := Ground.phase }, { on := 6, ground := Ground.phase }, { on := 7, ground := Ground.phase }, { on := 8, ground := Ground.phase }, { on := 9, ground := Ground.phase }], guard := none }) rfl (fun K hK => ?step11) ?more11
      case more11 => exact AllReadyH.nil
      (refine step_put_run hr2 rfl (.tmp 16) (.tmp 18) (.tmp 25) rfl rfl rfl rfl ?_)
      refine hK.out _ _ ?hS11 (fun hHeld => ?rr11)
      case hS11 => (exact c2)
      clear hK K
      try simp only [Act.put, List.setIfInBounds_toArray, List.set_cons_zero, List.set_cons_succ]
      refine wpAnyH_done (by kernel_rfl) ?_ _
      clear hHeld
      go_wp2_with fail
      go_roundw
      case rel => exact ⟨k + 1, L2, clock2, HLT.out, by go_num, by rw [HST.out]; exact HG2.out, HB2.out⟩
      case measure => have := HLT.out; simp [intOf]; omega
    · obtain rfl : k = T.length := by omega
      have HG2 : Hid (GAt Try.prog 3 wr w.heap.size w.heap.size (siteG T) L clock) := Lib.hid (by have := HG.out; rwa [List.take_length] at this)
      clear hlt hk hb HG HU HM0 HB0
      go_wp2_with fail
      have HK := Lib.hid (skeys_any (some w.heap.size) wr)
      have HND := Lib.hid HG2.out.nodup
      have hkn : ∀ e ∈ siteG T, InR64 e.1 := fun e he => by
        have h1 := (mem_keys (siteG T) e.1).1 (List.mem_map.2 ⟨e, he, rfl⟩)
        obtain ⟨u, hu, h2⟩ := ((siteG_holds T).1 e.1).1 h1
        rw [← h2]; exact hn u hu
      have HS := Lib.hid (ssorted_any HG2.out hkn (Nat.le_trans (site_few T) (by omega)))
      refine (HK.out).mono ?_
      rintro e w1 ⟨rfl, rfl⟩
      go_wp2_with fail
      refine (HS.out).mono ?_
      rintro e w1 ⟨kv, ns, rfl, hkv, hp, hrise, hko, hb1⟩
      have hns : ns.Pairwise (· < ·) := by
        have h1 := hp.nodup_iff.2 HND.out
        rw [List.Nodup] at h1
        exact hrise.imp₂ (fun a b h1 h2 => by omega) h1
      have hall : ns = allU T := lt_ext hns (allU_holds T).1 (fun x => by
        rw [hp.mem_iff, mem_keys, (siteG_holds T).1, (allU_holds T).2.1]
        exact ⟨fun ⟨v, hv, e⟩ => ⟨v, hv, e.symm⟩, fun ⟨v, hv, e⟩ => ⟨v, hv, e.symm⟩⟩)
      subst hall
      have HG3 := Lib.hid (HG2.out.below hb1)
      obtain ⟨Ak, ck, ek, hck1, hck2, _, _, hckc⟩ := hkv.form
      subst ek
      unfold maxLen at hck2
      have n1 : ((allU T).length : Int) ≤ 100 := by have := (allU_holds T).2.2; omega
      have HKV := Lib.hid hkv
      have HKO := Lib.hid hko
      have HKC := Lib.hid hckc
      clear HS HK hp hrise hns hkv hko hckc
      have hkk : ∀ x ∈ allU T, hasK (siteG T) x = true := fun x hx => by
        obtain ⟨u, hu, e⟩ := ((allU_holds T).2.1 x).1 hx
        exact ((siteG_holds T).1 x).2 ⟨u, hu, e.symm⟩
      have hki : ∀ x ∈ allU T, InR64 x := fun x hx => by
        obtain ⟨u, hu, e⟩ := ((allU_holds T).2.1 x).1 hx
        rw [e]; exact hn u hu
      have HKK := Lib.hid hkk
      have HKI := Lib.hid hki
      have HNS : Hid ((allU T).Pairwise (· < ·)) := Lib.hid (allU_holds T).1
      have HSL : Hid (∀ x, (at_ (siteG T) x).length ≤ 10000) := Lib.hid (fun x => Nat.le_trans (site_len T hs x) (by omega))
      have HB1 : Hid (Below w.heap.size w w1) := Lib.hid (HB.out.trans (hb1.mono HB.out.size))
      have HTT : Hid (turnT T = (allU T).map fun g => (g, rises (at_ (siteG T) g))) := Lib.hid rfl
      have HKD : Hid (∀ x ∈ allU T, ∀ b, (vofP (siteG T) L x).ownBlock = some b → (Value.slice Ak (allU T).length ck).ownBlock ≠ some b) := Lib.hid (fun x hx b hb e => by
        have h1 := (HG2.out.vof (hkk x hx)).1.lt b hb
        have h2 := HKO.out b e
        omega)
      have HWL : Hid (w.heap.size ≤ w1.heap.size) := Lib.hid HB1.out.size
      generalize hns : allU T = ns at *
      generalize hGG : siteG T = G at *
      clear hns hGG hkk hki hb1 HND HG2 hs hn hl
      go_wp2_with fail
      go_loopw [6, 31] (fun sv iv wr => ∃ (k : Nat) (ss : List (Int × Value)) (av : Value), k ≤ ns.length ∧ iv = .int .i64 k ∧ av = sv ∧ TurI w1 G L ns k av ss wr) (fun _ iv _ => ns.length - (intOf iv).toNat)
      case atStart => exact ⟨0, [], _, Nat.zero_le _, rfl, rfl, TurI.start _ _ _ _⟩
      case round =>
        obtain ⟨k, ss, av, hk, rfl, rfl, hI⟩ := hrel
        have HI := Lib.hid hI
        by_cases hlt : k < ns.length
        · have hx : ns[k]? = some ns[k] := List.getElem?_eq_getElem hlt
          have hki := HKI.out _ (List.getElem_mem hlt)
          have hkk := HKK.out _ (List.getElem_mem hlt)
          generalize ns[k] = x at hx hki hkk
          have hv0 := HI.out.val HG3.out HKK.out HNS.out hx
          obtain ⟨gk, eg, kc⟩ := HKC.out k (.int .i64 x) (by unfold ints; rw [List.getElem?_map, hx]; rfl)
          subst eg
          have kw : wr.cell? ⟨gk, k, none⟩ = some (.int .i64 x) := (World.cell?_of_block (a := ⟨gk, k, none⟩) (HI.out.t.block gk (heap_lt' kc) (fun ⟨j, y, hj, hy, e⟩ => HKD.out y (List.mem_of_getElem? hy) gk e rfl))).trans kc
          have hi : (k : Int) < (ns.length : Int) := by omega
          have lk := HG3.out.vof_look hkk hki (HI.out.map HG3.out HKK.out)
          have hlen := HSL.out x
          have HS1 := Lib.hid (sort_row hv0 (by omega))
          have HX := Lib.hid hx
          have HLT := Lib.hid hlt
          have HLN := Lib.hid hlen
          have HVG : Hid (∀ b, (vofP G L x).ownBlock = some b → b ≠ w.heap.size) := Lib.hid (fun b hb => ((HG3.out.vof hkk).2.1 b hb).2)
          have HKX := Lib.hid hkk
          have HRX := Lib.hid hki
          have HMP : Hid (wr.heap[w.heap.size]? = w1.heap[w.heap.size]?) := Lib.hid (HI.out.map HG3.out HKK.out)
          have HML : Hid (w.heap.size < wr.heap.size) := Lib.hid (Nat.lt_of_lt_of_le HG3.out.map.lt HI.out.t.size)
          clear hv0 kc hx hlt hk hI hlen hkk hki
          go_wp2_with (at_lookup; refine wpList_look_run rfl _ _ _ _ rfl rfl rfl lk ?_)
          refine (HS1.out).mono ?_
          rintro e w2 ⟨rfl, hr2, ht2⟩
          have HMP2 : Hid (w2.heap[w.heap.size]? = w1.heap[w.heap.size]?) := Lib.hid ((ht2.block _ HML.out (fun e => HVG.out _ e rfl)).trans HMP.out)
          have lk2 := HG3.out.vof_look HKX.out HRX.out HMP2.out
          have HC1 := Lib.hid (compact_row (l := sorted (at_ G x)) (by rw [sorted_len]; exact hr2) (by rw [sorted_len]; have := HLN.out; omega))
          have HT2 := Lib.hid ht2
          clear hr2 ht2 HS1 lk
          go_wp2_with (at_lookup; refine wpList_look_run rfl _ _ _ _ rfl rfl rfl lk2 ?_)
          refine (HC1.out).mono ?_
          rintro e w3 ⟨v', rfl, hv', hr3, ht3⟩
          have ht13 : Touch (fun b => (vofP G L x).ownBlock = some b) wr w3 := HT2.out.trans ht3 (fun _ _ h => h)
          have hav := HI.out.keep HG3.out HKK.out HX.out ht13
          have hl3 : ss.length ≤ 1000000 := by rw [HI.out.len]; have := HLT.out; omega
          have hr3' : RowIs w3 1 v' (rises (at_ G x)).length (ints (rises (at_ G x))) := hr3
          obtain ⟨Av, cv, ev, _⟩ := id hr3'.form
          subst ev
          obtain ⟨v4, w4, hr4, hrow4, ht4, ho4⟩ := app_usr x (.slice Av (rises (at_ G x)).length cv) rfl 23 hav hl3
          have HN := Lib.hid (HI.out.next HG3.out HKK.out HNS.out HX.out ht13 hr3' hv' ht4 hrow4 ho4)
          clear hv' hr3 ht3 ht13 hav hl3 hr3' hrow4 ht4 ho4 HC1 lk2
          go_wp2_with (at_builtin; refine wpList_app_run rfl _ _ _ _ rfl rfl rfl hr4 ?_)
          go_roundw
          case rel => exact ⟨k + 1, _, _, HLT.out, by go_num, rfl, HN.out⟩
          case measure => have := HLT.out; simp [intOf]; omega
        · obtain rfl : k = ns.length := by omega
          have HF : Hid (UIs wr av (turnT T) ∧ Below w.heap.size w wr) := Lib.hid (by
            have hI := HI.out
            rw [HTT.out]
            refine ⟨uis_row hI.row (by rw [hI.len, List.length_map]) (fun i e u he hu => ?_), ?_⟩
            · obtain ⟨e1, e2, e3⟩ := hI.each i e he
              rw [List.getElem?_map, e1] at hu
              have hu : (e.1, rises (at_ G e.1)) = u := by simpa using hu
              subst hu
              exact ⟨rfl, e2.sis⟩
            · refine HB1.out.trans (hI.t.below (fun b ⟨j, y, hj, hy, e⟩ => ((HG3.out.vof (HKK.out y (List.mem_of_getElem? hy))).2.1 b e).1) HWL.out))
          clear hlt hk hI
          go_wp2_with fail
          go_ret
          exact ⟨av, rfl, HF.out⟩
end Go.Proofs.Ytlbhpeeggbfcpaa
