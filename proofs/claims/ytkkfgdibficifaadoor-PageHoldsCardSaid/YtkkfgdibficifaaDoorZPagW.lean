/- Del: the walk. -/
import Derived.Test.YtkkfgdibficifaaDoorZPagV
import Derived.Test.YtkkfgdibficifaaDoorZPagQ
set_option linter.unusedSimpArgs false
set_option linter.unusedVariables false
set_option linter.unnecessarySimpa false
namespace Go.Proofs.YtkkfgdibficifaaDoor
open Go.RowKit Go.Shelf Go.Sort Go.Lib

theorem pgC_del {p : List Row} {k : Nat} : delL 2 k (pgC p) = pgC (p.eraseIdx k) := by
  unfold delL
  rw [pgC_take, pgC_drop, List.eraseIdx_eq_take_drop_succ, pgC_append]
/-- Del, in plain words. -/
def delP (most : Nat) (P : List (List Row)) (k : K) : List (List Row) × Bool := match findP P k with
  | (i, at_, true) => (tidyP most (P.set i (((P[i]?).getD []).eraseIdx at_)) i, true)
  | (_, _, false) => (P, false)
set_option maxRecDepth 100000 in
set_option maxHeartbeats 4000000 in
theorem Del_any {w : World} {s most : Nat} {v : Value} {L : List Pl} {P : List (List Row)} {k : K} (h : St w s most v L P) (hF : Fine most P) :
    Calls Tryd.prog 12 #[.pointer (some ⟨s, 0, none⟩), strV k] w fun e w' => e = .returned (.bool (delP most P k).2) ∧ StPost w s most v L (delP most P k).1 w' := by
  have hfi := find_any (k := k) h hF
  simp only [strV] at hfi
  cases ht : (findP P k).2.2 with
  | false =>
    have hg : delP most P k = (P, false) := by
      unfold delP
      generalize findP P k = f at ht
      obtain ⟨i, at_, t⟩ := f
      simp only at ht
      subst ht
      rfl
    rw [hg]
    rw [ht] at hfi
    have HFI := Lib.hid hfi
    have H := Lib.hid h
    generalize (findP P k).1 = i at HFI
    generalize (findP P k).2.1 = at_ at HFI
    clear hfi h hF hg ht
    unfold strV
    go_enter Tryd.func12, Tryd.ntmps12
    go_wp2_with fail
    refine (HFI.out).mono ?_
    rintro e w2 ⟨rfl, hb2⟩
    have HB2 := Lib.hid hb2
    clear hb2 HFI
    go_wp2_with fail
    go_ret
    exact ⟨rfl, StPost.start H.out HB2.out⟩
  | true =>
    have HP0 : ∃ i p, P[i]? = some p ∧ findP P k = (i, lowP p k, hasP p k) := by
      unfold findP at ht ⊢
      split
      · rename_i p hp
        exact ⟨_, p, hp, rfl⟩
      · rename_i hp
        rw [hp] at ht
        cases ht
    obtain ⟨i, p, hp, hfp⟩ := HP0
    rw [hfp] at hfi ht
    simp only at ht
    rw [ht] at hfi
    obtain ⟨r, hr, hrk⟩ := has_at ht
    have hg : delP most P k = (tidyP most (P.set i (p.eraseIdx (lowP p k))) i, true) := by
      unfold delP
      rw [hfp, ht]
      simp only [hp, Option.getD_some]
    rw [hg]
    obtain ⟨a, g, c, ha, hv, hc1, hc2, kc, hA, hac⟩ := row_page h hp
    have ks : w.cell? ⟨s, 1, none⟩ = some v := cell_of h.head 1
    rw [hv] at ks
    have hpl := (hF.page hp).2.2
    have hp1 := (hF.page hp).2.1
    have hPl := hF.len
    have hil := (List.getElem?_eq_some_iff.1 hp).1
    have hal := (List.getElem?_eq_some_iff.1 hr).1
    have hmx := hA.max
    unfold maxLen at hc2 hmx
    have HFI := Lib.hid hfi
    generalize lowP p k = at_ at HFI hal
    have hvg : v.ownBlock = some g := by rw [hv]; rfl
    have hgs : g ≠ s := fun e => h.off (e ▸ hvg)
    have hel : (p.eraseIdx at_).length = p.length - 1 := by rw [List.length_eraseIdx]; simp [hal]
    obtain ⟨q, hq⟩ : ∃ q, q = p.eraseIdx at_ := ⟨_, rfl⟩
    rw [← hq] at hel ⊢
    have HC : Hid (∀ W, Below w.heap.size w W → W.cell? ⟨s, 1, none⟩ = some (.slice (some ⟨g, 0, none⟩) P.length c)) := Lib.hid (fun W hW => (hW.cell (p := ⟨s, 1, none⟩) (World.block_lt_of_cell? _ _ ks)).trans ks)
    have HG : Hid (∀ W, Below w.heap.size w W → W.cell? ⟨g, i, none⟩ = some (.slice (some ⟨a.g, a.o, none⟩) p.length a.cap)) := Lib.hid (fun W hW => (hW.cell (p := ⟨g, i, none⟩) (World.block_lt_of_cell? _ _ kc)).trans kc)
    have hag := h.offs a (List.mem_of_getElem? ha)
    have hga : g ≠ a.g := fun e => hag.2 (e ▸ hvg)
    have HDEL : Hid (∀ W4, Below w.heap.size w W4 → Calls Tryd.prog 24 #[.slice (some ⟨a.g, a.o, none⟩) p.length a.cap, .int .i64 at_, .int .i64 ((at_ : Int) + 1)] W4 fun e W5 =>
        e = .returned (.slice (some ⟨a.g, a.o, none⟩) (p.length - 1) a.cap) ∧ St (W5.setCell ⟨g, i, none⟩ (.slice (some ⟨a.g, a.o, none⟩) (p.length - 1) a.cap)) s most v (L.set i a) (P.set i q) ∧ Touch (Owns s v L) w (W5.setCell ⟨g, i, none⟩ (.slice (some ⟨a.g, a.o, none⟩) (p.length - 1) a.cap)) ∧ (W5.cell? ⟨g, i, none⟩).isSome = true ∧ W5.frozen? ⟨g, i, none⟩ = false ∧ W5.cell? ⟨s, 1, none⟩ = some (.slice (some ⟨g, 0, none⟩) P.length c)) := Lib.hid (fun W4 hb => by
      refine (deleteR (hA.below hb) (by rw [pgC_len]) (k := at_) (n := p.length) (m := p.length - 1) (by omega) hal hac (by omega)).mono ?_
      rintro e W5 ⟨rfl, hA5, hT5⟩
      rw [pgC_del, ← hq] at hA5
      have hTA := (TouchA.of_below (o := a.o) (n := a.cap * 2) hA.lt hb).trans hT5
      obtain ⟨h3, h4⟩ := h.upd (a' := a) (p' := q) hv ha hp hA5 (by omega) (.inl ⟨Sub.refl a, hTA⟩)
      have hpv : plV a q = .slice (some ⟨a.g, a.o, none⟩) (p.length - 1) a.cap := by unfold plV; rw [hel]
      rw [hpv] at h3 h4
      have hr1 : RowIs W5 1 v P.length (pgsV L P) := RowIs.touch h.row hTA.touch (fun k hk e => hag.2 (e ▸ hk))
      rw [hv] at hr1
      obtain ⟨hPA, _, _⟩ := hr1.area (pgsV_one L P)
      obtain ⟨q1, q2⟩ := hPA.there i (by omega)
      rw [Nat.zero_add] at q1 q2
      exact ⟨rfl, h3, h4, q1, q2, (World.cell?_of_block (a := ⟨s, 1, none⟩) (hTA.block s (heap_lt h.head) (fun e => hag.1 e.symm))).trans ks⟩)
    have HTIDY : Hid (∀ W (L' : List Pl), St W s most v L' (P.set i q) → Calls Tryd.prog 25 #[.pointer (some ⟨s, 0, none⟩), .int .i64 i] W fun e w' => e = .returned (.tuple #[]) ∧ StPost W s most v L' (tidyP most (P.set i q) i) w') := Lib.hid (fun W L' h' => tidy_any h' (List.getElem?_set_self hil) (by rw [List.length_set]; exact hPl) (fun x hx => (List.mem_or_eq_of_mem_set hx).elim (fun hx => Nat.le_trans (hF.full x hx) hF.most.2) (fun e => by rw [e]; omega)) (fun j x hx hji => by
      rw [List.getElem?_set_ne (fun e => hji e.symm)] at hx
      exact (hF.page hx).2.1) hF.most)
    have HOW : Hid (∀ k, Owns s v (L.set i a) k → Owns s v L k ∨ w.heap.size ≤ k) := Lib.hid (fun k hk => by
      rcases hk with rfl | hk | ⟨b, hb2, rfl⟩
      · exact .inl (.inl rfl)
      · exact .inl (.inr (.inl hk))
      · rcases List.mem_or_eq_of_mem_set hb2 with hb2 | rfl
        · exact .inl (.inr (.inr ⟨b, hb2, rfl⟩))
        · exact .inl (.inr (.inr ⟨_, List.mem_of_getElem? ha, rfl⟩)))
    have HNE : Hid (g ≠ s) := Lib.hid hgs
    have hiI : (i : Int) < (P.length : Int) := by omega
    have hlP : (P.length : Int) ≤ 256 := by omega
    have haI : (at_ : Int) < (p.length : Int) := by omega
    have hlp : (p.length : Int) ≤ 64 := by omega
    obtain ⟨n, hn⟩ : ∃ n, p.length = n := ⟨_, rfl⟩
    rw [hn] at HG HDEL hlp haI hal hpl hp1 hac
    clear hfi h hF hg ht ks kc hA hp ha hr hv hvg hgs hel hag hga hq hn
    unfold strV
    go_enter Tryd.func12, Tryd.ntmps12
    go_wp2_with fail
    refine (HFI.out).mono ?_
    rintro e w2 ⟨rfl, hb2⟩
    have HB2 := Lib.hid hb2
    clear hb2 HFI
    go_wp2_with fail
    have HCALL := Lib.hid (HDEL.out w2.drew (below_drew HB2.out))
    have hg1 := HG.out _ HB2.out
    have hwa : IntKind.i64.wrap ((at_ : Int) + 1) = (at_ : Int) + 1 := IntWalk.i64_in _ (by omega)
    clear HDEL HG
    refine wp_only ?_
    refine wp_region_held_drew (S := fun W => W.cell? ⟨s, 1, none⟩ = some (.slice (some ⟨g, 0, none⟩) P.length c)) (by kernel_rfl) (HC.out _ (below_drew HB2.out)) (fun hHeld => ?_)
    refine wpAnyH_take (i := 0) (oi := { dst := some 19, op := Op.move (Operand.tmp 0), type := 24, pos := "change.go:27", after := #[], guard := none }) (v := ?vv1) rfl (by kernel_rfl) (by kernel_rfl) (by kernel_rfl) (fun _ _ _ h => h) ?hy1 (by assumption) ?rest1
    case hy1 => (refine Or.inl ⟨by rfl, ?_⟩; intro W hSw; (try dsimp only at hSw); go_simp; (try with_reducible rfl))
    try simp only [Act.put, List.setIfInBounds_toArray, List.set_cons_zero, List.set_cons_succ]
    refine wpAnyH_take (i := 1) (oi := { dst := some 20, op := Op.nilCheck (Operand.tmp 19), type := 0, pos := "change.go:27", after := #[{ on := 0, ground := Ground.data }], guard := none }) (v := ?vv2) rfl (by kernel_rfl) (by kernel_rfl) (by kernel_rfl) (fun _ _ _ h => h) ?hy2 (by assumption) ?rest2
    case hy2 => (refine Or.inl ⟨by rfl, ?_⟩; intro W hSw; (try dsimp only at hSw); go_simp; (try with_reducible rfl))
    try simp only [Act.put, List.setIfInBounds_toArray, List.set_cons_zero, List.set_cons_succ]
    refine wpAnyH_take (i := 2) (oi := { dst := some 21, op := Op.fieldAddr 63 (Operand.tmp 20) 1, type := 0, pos := "change.go:27", after := #[{ on := 1, ground := Ground.data }], guard := none }) (v := ?vv3) rfl (by kernel_rfl) (by kernel_rfl) (by kernel_rfl) (fun _ _ _ h => h) ?hy3 (by assumption) ?rest3
    case hy3 => (refine Or.inl ⟨by rfl, ?_⟩; intro W hSw; (try dsimp only at hSw); go_simp; (try with_reducible rfl))
    try simp only [Act.put, List.setIfInBounds_toArray, List.set_cons_zero, List.set_cons_succ]
    refine wpAnyH_take (i := 3) (oi := { dst := some 22, op := Op.load 46 (Operand.tmp 21), type := 46, pos := "change.go:27", after := #[{ on := 2, ground := Ground.data }], guard := none }) (v := ?vv4) rfl (by kernel_rfl) (by kernel_rfl) (by kernel_rfl) (fun _ _ _ h => h) ?hy4 (by assumption) ?rest4
    case hy4 => (refine Or.inl ⟨by rfl, ?_⟩; intro W hSw; (try dsimp only at hSw); go_simp; (try with_reducible rfl))
    try simp only [Act.put, List.setIfInBounds_toArray, List.set_cons_zero, List.set_cons_succ]
    refine wpAnyH_take (i := 4) (oi := { dst := some 23, op := Op.move (Operand.tmp 5), type := 3, pos := "change.go:27", after := #[], guard := none }) (v := ?vv5) rfl (by kernel_rfl) (by kernel_rfl) (by kernel_rfl) (fun _ _ _ h => h) ?hy5 (by assumption) ?rest5
    case hy5 => (refine Or.inl ⟨by rfl, ?_⟩; intro W hSw; (try dsimp only at hSw); go_simp; (try with_reducible rfl))
    try simp only [Act.put, List.setIfInBounds_toArray, List.set_cons_zero, List.set_cons_succ]
    refine wpAnyH_take (i := 5) (oi := { dst := some 24, op := Op.move (Operand.tmp 0), type := 24, pos := "change.go:27", after := #[], guard := none }) (v := ?vv6) rfl (by kernel_rfl) (by kernel_rfl) (by kernel_rfl) (fun _ _ _ h => h) ?hy6 (by assumption) ?rest6
    case hy6 => (refine Or.inl ⟨by rfl, ?_⟩; intro W hSw; (try dsimp only at hSw); go_simp; (try with_reducible rfl))
    try simp only [Act.put, List.setIfInBounds_toArray, List.set_cons_zero, List.set_cons_succ]
    refine wpAnyH_take (i := 6) (oi := { dst := some 25, op := Op.nilCheck (Operand.tmp 24), type := 0, pos := "change.go:27", after := #[{ on := 5, ground := Ground.data }], guard := none }) (v := ?vv7) rfl (by kernel_rfl) (by kernel_rfl) (by kernel_rfl) (fun _ _ _ h => h) ?hy7 (by assumption) ?rest7
    case hy7 => (refine Or.inl ⟨by rfl, ?_⟩; intro W hSw; (try dsimp only at hSw); go_simp; (try with_reducible rfl))
    try simp only [Act.put, List.setIfInBounds_toArray, List.set_cons_zero, List.set_cons_succ]
    refine wpAnyH_take (i := 7) (oi := { dst := some 26, op := Op.fieldAddr 63 (Operand.tmp 25) 1, type := 0, pos := "change.go:27", after := #[{ on := 6, ground := Ground.data }], guard := none }) (v := ?vv8) rfl (by kernel_rfl) (by kernel_rfl) (by kernel_rfl) (fun _ _ _ h => h) ?hy8 (by assumption) ?rest8
    case hy8 => (refine Or.inl ⟨by rfl, ?_⟩; intro W hSw; (try dsimp only at hSw); go_simp; (try with_reducible rfl))
    try simp only [Act.put, List.setIfInBounds_toArray, List.set_cons_zero, List.set_cons_succ]
    refine wpAnyH_take (i := 8) (oi := { dst := some 27, op := Op.load 46 (Operand.tmp 26), type := 46, pos := "change.go:27", after := #[{ on := 7, ground := Ground.data }], guard := none }) (v := ?vv9) rfl (by kernel_rfl) (by kernel_rfl) (by kernel_rfl) (fun _ _ _ h => h) ?hy9 (by assumption) ?rest9
    case hy9 => (refine Or.inl ⟨by rfl, ?_⟩; intro W hSw; (try dsimp only at hSw); go_simp; (try with_reducible rfl))
    try simp only [Act.put, List.setIfInBounds_toArray, List.set_cons_zero, List.set_cons_succ]
    refine wpAnyH_take (i := 9) (oi := { dst := some 28, op := Op.move (Operand.tmp 5), type := 3, pos := "change.go:27", after := #[], guard := none }) (v := ?vv10) rfl (by kernel_rfl) (by kernel_rfl) (by kernel_rfl) (fun _ _ _ h => h) ?hy10 (by assumption) ?rest10
    case hy10 => (refine Or.inl ⟨by rfl, ?_⟩; intro W hSw; (try dsimp only at hSw); go_simp; (try with_reducible rfl))
    try simp only [Act.put, List.setIfInBounds_toArray, List.set_cons_zero, List.set_cons_succ]
    refine wpAnyH_take (i := 10) (oi := { dst := some 29, op := Op.indexAddr 46 (Operand.tmp 27) (Operand.tmp 28), type := 0, pos := "change.go:27", after := #[{ on := 8, ground := Ground.data }, { on := 9, ground := Ground.data }], guard := none }) (v := ?vv11) rfl (by kernel_rfl) (by kernel_rfl) (by kernel_rfl) (fun _ _ _ h => h) ?hy11 (by assumption) ?rest11
    case hy11 => (refine Or.inl ⟨by rfl, ?_⟩; intro W hSw; (try dsimp only at hSw); go_simp; (try with_reducible rfl))
    try simp only [Act.put, List.setIfInBounds_toArray, List.set_cons_zero, List.set_cons_succ]
    refine wpAnyH_take (i := 12) (oi := { dst := some 31, op := Op.move (Operand.tmp 6), type := 3, pos := "change.go:27", after := #[], guard := none }) (v := ?vv12) rfl (by kernel_rfl) (by kernel_rfl) (by kernel_rfl) (fun _ _ _ h => h) ?hy12 (by assumption) ?rest12
    case hy12 => (refine Or.inl ⟨by rfl, ?_⟩; intro W hSw; (try dsimp only at hSw); go_simp; (try with_reducible rfl))
    try simp only [Act.put, List.setIfInBounds_toArray, List.set_cons_zero, List.set_cons_succ]
    refine wpAnyH_take (i := 13) (oi := { dst := some 32, op := Op.move (Operand.tmp 6), type := 3, pos := "change.go:27", after := #[], guard := none }) (v := ?vv13) rfl (by kernel_rfl) (by kernel_rfl) (by kernel_rfl) (fun _ _ _ h => h) ?hy13 (by assumption) ?rest13
    case hy13 => (refine Or.inl ⟨by rfl, ?_⟩; intro W hSw; (try dsimp only at hSw); go_simp; (try with_reducible rfl))
    try simp only [Act.put, List.setIfInBounds_toArray, List.set_cons_zero, List.set_cons_succ]
    refine wpAnyH_take (i := 14) (oi := { dst := some 33, op := Op.binOp BinOp.add 3 (Operand.tmp 32) (Operand.const (Value.int IntKind.i64 1)) 3, type := 3, pos := "change.go:27", after := #[{ on := 13, ground := Ground.data }], guard := none }) (v := ?vv14) rfl (by kernel_rfl) (by kernel_rfl) (by kernel_rfl) (fun _ _ _ h => h) ?hy14 (by assumption) ?rest14
    case hy14 => (refine Or.inl ⟨by rfl, ?_⟩; intro W hSw; (try dsimp only at hSw); go_simp; (try with_reducible rfl))
    try simp only [Act.put, List.setIfInBounds_toArray, List.set_cons_zero, List.set_cons_succ]
    refine wpAnyH_ready (rs := [11]) (by kernel_rfl) (by simp) ?_
    refine AllReadyH.cons (o := { dst := some 30, op := Op.load 28 (Operand.tmp 29), type := 28, pos := "change.go:27", after := #[{ on := 10, ground := Ground.data }], guard := none }) rfl (fun K hK => ?step15) ?more15
    case more15 => exact AllReadyH.nil
    (go_simp)
    refine hK.out _ _ ?hS15 (fun hHeld => ?rr15)
    case hS15 => (exact HC.out _ (below_drew HB2.out))
    clear hK K
    try simp only [Act.put, List.setIfInBounds_toArray, List.set_cons_zero, List.set_cons_succ]
    refine wpAnyH_ready (rs := [15]) (by kernel_rfl) (by simp) ?_
    refine AllReadyH.cons (o := { dst := some 34, op := Op.call { callee := Callee.value (Operand.func 24), args := #[Operand.tmp 30, Operand.tmp 31, Operand.tmp 33], argTypes := #[28, 3, 3] }, type := 28, pos := "change.go:27", after := #[{ on := 11, ground := Ground.data }, { on := 12, ground := Ground.data }, { on := 14, ground := Ground.data }], guard := none }) rfl (fun K hK => ?step16) ?more16
    case more16 => exact AllReadyH.nil
    ((go_simp; go_at_call 24; refine (HCALL.out).mono ?_; rintro e w5 ⟨rfl, h3, h4, q1, q2, q3⟩; have HQ3 := Lib.hid q3; clear q3; go_wp2_with fail))
    refine hK.out _ _ ?hS16 (fun hHeld => ?rr16)
    case hS16 => (exact HQ3.out)
    clear hK K
    try simp only [Act.put, List.setIfInBounds_toArray, List.set_cons_zero, List.set_cons_succ]
    obtain ⟨xx, q1⟩ := Option.isSome_iff_exists.1 q1
    have HK5 : Hid ((w5.setCell ⟨g, i, none⟩ (.slice (some ⟨a.g, a.o, none⟩) (n - 1) a.cap)).cell? ⟨s, 1, none⟩ = some (.slice (some ⟨g, 0, none⟩) P.length c)) := Lib.hid (by rw [World.cell?_setCell_far _ _ _ _ (show g ≠ s from HNE.out)]; exact HQ3.out)
    have H3 := Lib.hid h3
    have H4 := Lib.hid h4
    clear h3 h4 HCALL
    refine wpAnyH_take (i := 16) (oi := { dst := some 35, op := Op.indexAddr 46 (Operand.tmp 22) (Operand.tmp 23), type := 0, pos := "change.go:27", after := #[{ on := 3, ground := Ground.data }, { on := 4, ground := Ground.data }, { on := 0, ground := Ground.phase }, { on := 1, ground := Ground.phase }, { on := 2, ground := Ground.phase }, { on := 3, ground := Ground.phase }, { on := 4, ground := Ground.phase }, { on := 5, ground := Ground.phase }, { on := 6, ground := Ground.phase }, { on := 7, ground := Ground.phase }, { on := 8, ground := Ground.phase }, { on := 9, ground := Ground.phase }, { on := 10, ground := Ground.phase }, { on := 11, ground := Ground.phase }, { on := 12, ground := Ground.phase }, { on := 13, ground := Ground.phase }, { on := 14, ground := Ground.phase }, { on := 15, ground := Ground.phase }], guard := none }) (v := ?vv17) rfl (by kernel_rfl) (by kernel_rfl) (by kernel_rfl) (fun _ _ _ h => h) ?hy17 (by assumption) ?rest17
    case hy17 => (refine Or.inl ⟨by rfl, ?_⟩; intro W hSw; (try dsimp only at hSw); go_simp; (try with_reducible rfl))
    try simp only [Act.put, List.setIfInBounds_toArray, List.set_cons_zero, List.set_cons_succ]
    refine wpAnyH_ready (rs := [17]) (by kernel_rfl) (by simp) ?_
    refine AllReadyH.cons (o := { dst := none, op := Op.store 28 (Operand.tmp 35) (Operand.tmp 34), type := 0, pos := "change.go:27", after := #[{ on := 16, ground := Ground.data }, { on := 15, ground := Ground.data }, { on := 15, ground := Ground.chain }, { on := 0, ground := Ground.phase }, { on := 1, ground := Ground.phase }, { on := 2, ground := Ground.phase }, { on := 3, ground := Ground.phase }, { on := 4, ground := Ground.phase }, { on := 5, ground := Ground.phase }, { on := 6, ground := Ground.phase }, { on := 7, ground := Ground.phase }, { on := 8, ground := Ground.phase }, { on := 9, ground := Ground.phase }, { on := 10, ground := Ground.phase }, { on := 11, ground := Ground.phase }, { on := 12, ground := Ground.phase }, { on := 13, ground := Ground.phase }, { on := 14, ground := Ground.phase }, { on := 15, ground := Ground.phase }], guard := none }) rfl (fun K hK => ?step18) ?more18
    case more18 => exact AllReadyH.nil
    (go_simp)
    refine hK.out _ _ ?hS18 (fun hHeld => ?rr18)
    case hS18 => (exact HK5.out)
    clear hK K
    try simp only [Act.put, List.setIfInBounds_toArray, List.set_cons_zero, List.set_cons_succ]
    refine wpAnyH_done (by kernel_rfl) ?_ _
    clear hHeld q1 q2 HC hg1
    dsimp only [onlyN]
    obtain ⟨W6, hW6⟩ : ∃ W6, W6 = w5.setCell ⟨g, i, none⟩ (.slice (some ⟨a.g, a.o, none⟩) (n - 1) a.cap) := ⟨_, rfl⟩
    rw [← hW6] at H3 H4 ⊢
    have HTC := Lib.hid (HTIDY.out W6 _ H3.out)
    have HFIN := Lib.hid (fun (W : World) (hq : StPost W6 s most v (L.set i a) (tidyP most (P.set i q) i) W) => StPost.trans H4.out HOW.out hq)
    clear hW6 HTIDY HK5 H3 H4 HOW HB2
    go_wp2_with fail
    refine (HTC.out).mono ?_
    rintro e w7 ⟨rfl, hpost⟩
    have HF7 := Lib.hid (HFIN.out _ hpost)
    clear hpost HFIN HTC
    go_wp2_with fail
    go_ret
    exact ⟨rfl, HF7.out⟩
end Go.Proofs.YtkkfgdibficifaaDoor
