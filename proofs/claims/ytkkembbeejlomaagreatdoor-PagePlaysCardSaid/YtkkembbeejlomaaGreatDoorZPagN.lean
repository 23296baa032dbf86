/- Put: a row more in a page. -/
import Derived.Test.YtkkembbeejlomaaGreatDoorZPagM
set_option linter.unusedSimpArgs false
set_option linter.unusedVariables false
set_option linter.unnecessarySimpa false
namespace Go.Proofs.YtkkembbeejlomaaGreatDoor
open Go.RowKit Go.Shelf Go.Sort Go.Lib

theorem pgC_ins {p : List Row} {at_ : Nat} {x : Row} : insL 2 at_ (pgC p) (rowV x) = pgC (insAt p at_ x) := by
  unfold insL insAt
  rw [pgC_take, pgC_drop, pgC_append, pgC_cons]
/-- A page behind a call that made it anew, and the cell of the row that says so. -/
theorem St.renew {W W4 W5 : World} {s most g c i n : Nat} {v : Value} {L : List Pl} {P : List (List Row)} {a : Pl} {p p' : List Row} {e : Ending} (h : St W s most v L P) (hv : v = .slice (some ⟨g, 0, none⟩) P.length c) (ha : L[i]? = some a) (hp : P[i]? = some p) (hb : Below W.heap.size W W4) (hi : InsPost W4 2 a.g a.o a.cap n (pgC p') e W5) (hn : p'.length = n) :
    ∃ a', e = .returned (.slice (some ⟨a'.g, a'.o, none⟩) n a'.cap) ∧ n ≤ a'.cap ∧ a'.cap ≤ maxLen ∧ St (W5.setCell ⟨g, i, none⟩ (.slice (some ⟨a'.g, a'.o, none⟩) n a'.cap)) s most v (L.set i a') (P.set i p') ∧ Touch (Owns s v L) W (W5.setCell ⟨g, i, none⟩ (.slice (some ⟨a'.g, a'.o, none⟩) n a'.cap)) ∧ (∀ k, Owns s v (L.set i a') k → Owns s v L k ∨ W.heap.size ≤ k) ∧ (W5.cell? ⟨g, i, none⟩).isSome = true ∧ W5.frozen? ⟨g, i, none⟩ = false ∧ Touch (fun k => k = a.g) W W5 := by
  obtain ⟨g', o', c', rfl, hnc, hA', hw⟩ := hi
  have hgl := h.owns_lt a.g (.inr (.inr ⟨a, List.mem_of_getElem? ha, rfl⟩))
  have hN : NewAt W W5 a ⟨g', o', c'⟩ := by
    rcases hw with ⟨rfl, rfl, rfl, ht⟩ | ⟨rfl, rfl, hb2⟩
    · exact .inl ⟨Sub.refl a, (TouchA.of_below hgl hb).trans ht⟩
    · exact .inr ⟨hb.size, hb.trans (hb2.mono hb.size)⟩
  obtain ⟨h1, h2⟩ := h.upd hv ha hp hA' (by rw [hn]; exact hnc) hN
  have hpv : plV ⟨g', o', c'⟩ p' = .slice (some ⟨g', o', none⟩) n c' := by unfold plV; rw [hn]
  rw [hpv] at h1 h2
  have hil := (List.getElem?_eq_some_iff.1 hp).1
  have hvg : v.ownBlock = some g := by rw [hv]; rfl
  have hag := (h.offs a (List.mem_of_getElem? ha)).2
  have hr1 : RowIs W5 1 v P.length (pgsV L P) := RowIs.touch h.row hN.touch (fun k hk e => hag (e ▸ hk))
  rw [hv] at hr1
  obtain ⟨hPA, hn1, hl1⟩ := hr1.area (pgsV_one L P)
  obtain ⟨q1, q2⟩ := hPA.there i (by omega)
  rw [Nat.zero_add] at q1 q2
  refine ⟨⟨g', o', c'⟩, rfl, hnc, hA'.max, h1, h2, fun k hk => ?_, q1, q2, hN.touch⟩
  rcases hk with rfl | hk | ⟨b, hb2, rfl⟩
  · exact .inl (.inl rfl)
  · exact .inl (.inr (.inl hk))
  · rcases List.mem_or_eq_of_mem_set hb2 with hb2 | rfl
    · exact .inl (.inr (.inr ⟨b, hb2, rfl⟩))
    · rcases hN with ⟨hs, _⟩ | ⟨hs, _⟩
      · exact .inl (.inr (.inr ⟨a, List.mem_of_getElem? ha, hs.1.symm⟩))
      · exact .inr hs
set_option maxRecDepth 100000 in
set_option maxHeartbeats 4000000 in
theorem put_in {w : World} {s most : Nat} {v : Value} {L : List Pl} {P : List (List Row)} {x : Row} (h : St w s most v L P) (hF : Fine most P) (hx : x.k.length ≤ 16) (ht : (findP P x.k).2.2 = false) (hf : P.flatten.length < 256) (hP : 0 < P.length) :
    Calls Tryz.prog 43 #[.pointer (some ⟨s, 0, none⟩), .agg #[strV x.k, .int .i64 x.n]] w (PutPost w s most v L P x) := by
  have hb1 := below_new (w := w) (.cells #[.string ⟨x.k.toArray⟩, .int .i64 x.n] 42)
  have hat := alloc_at w (.cells #[.string ⟨x.k.toArray⟩, .int .i64 x.n] 42)
  have k0 : (w.alloc (.cells #[.string ⟨x.k.toArray⟩, .int .i64 x.n] 42)).cell? ⟨w.heap.size, 0, none⟩ = some (.string ⟨x.k.toArray⟩) := cell_of hat 0
  have k1 : (w.alloc (.cells #[.string ⟨x.k.toArray⟩, .int .i64 x.n] 42)).cell? ⟨w.heap.size, 1, none⟩ = some (.int .i64 x.n) := cell_of hat 1
  have hlI : ¬ (16 : Int) < (x.k.length : Int) := by omega
  obtain ⟨W1, hW1⟩ : ∃ W1, W1 = w.alloc (.cells #[.string ⟨x.k.toArray⟩, .int .i64 x.n] 42) := ⟨_, rfl⟩
  have hws : w.heap.size < W1.heap.size := by rw [hW1, asz]; omega
  rw [← hW1] at hb1 k0 k1
  have h1 := h.below hb1
  have hfi := find_any (k := x.k) h1 hF
  simp only [strV] at hfi
  rw [ht] at hfi
  have hPU := putP_not (most := most) hx ht
  have hpl := page_lt (k := x.k) hP
  have hp : P[pageP P x.k]? = some P[pageP P x.k] := List.getElem?_eq_getElem hpl
  generalize P[pageP P x.k] = p at hp
  have hfp : findP P x.k = (pageP P x.k, lowP p x.k, hasP p x.k) := by unfold findP; rw [hp]
  have hatp := lowP_le p x.k
  rw [hfp] at hfi hPU
  rw [if_neg (by omega), if_neg (fun e => by rw [e] at hP; simp at hP)] at hPU
  simp only [hp, Option.getD_some] at hPU
  generalize pageP P x.k = i at hpl hp hfi hPU
  generalize lowP p x.k = at_ at hatp hfi hPU
  obtain ⟨_, hp1, hp2⟩ := hF.page hp
  obtain ⟨a, g, c, ha, hv, hc1, hc2, kc, hA, hac⟩ := row_page h1 hp
  have ks : W1.cell? ⟨s, 1, none⟩ = some v := cell_of h1.head 1
  rw [hv] at ks
  have hPl := hF.len
  have hmx := hA.max
  unfold maxLen at hc2 hmx
  obtain ⟨q, hq⟩ : ∃ q, q = insAt p at_ x := ⟨_, rfl⟩
  rw [← hq] at hPU
  have hql : q.length = p.length + 1 := by rw [hq]; exact insAt_len hatp
  obtain ⟨n, hn⟩ : ∃ n, p.length = n := ⟨_, rfl⟩
  rw [hn] at kc hac hp1 hp2 hatp hql
  have hvg : v.ownBlock = some g := by rw [hv]; rfl
  have hgl := RowIs.lt h.row g hvg
  have hsl := heap_lt h.head
  have hgs : g ≠ s := fun e => h.off (e ▸ hvg)
  have hag := h.offs a (List.mem_of_getElem? ha)
  have hal := h.owns_lt a.g (.inr (.inr ⟨a, List.mem_of_getElem? ha, rfl⟩))
  have hga : g ≠ a.g := fun e => hag.2 (e ▸ hvg)
  have HLEN := Lib.hid (fun W (hW : Below W1.heap.size W1 W) => Len_any (h1.below hW) (by omega))
  have hnt : ((P.flatten.length : Nat) : Int) < 256 := by omega
  obtain ⟨nt, hnt2⟩ : ∃ nt, P.flatten.length = nt := ⟨_, rfl⟩
  rw [hnt2] at HLEN hnt
  have HC : Hid (∀ W, Below W1.heap.size W1 W → W.cell? ⟨w.heap.size, 0, none⟩ = some (.string ⟨x.k.toArray⟩) ∧ W.cell? ⟨w.heap.size, 1, none⟩ = some (.int .i64 x.n) ∧ W.cell? ⟨s, 1, none⟩ = some (.slice (some ⟨g, 0, none⟩) P.length c)) := Lib.hid (fun W hW => ⟨(hW.cell (p := ⟨w.heap.size, 0, none⟩) (World.block_lt_of_cell? _ _ k0)).trans k0, (hW.cell (p := ⟨w.heap.size, 1, none⟩) (World.block_lt_of_cell? _ _ k1)).trans k1, (hW.cell (p := ⟨s, 1, none⟩) (World.block_lt_of_cell? _ _ ks)).trans ks⟩)
  have HG : Hid (∀ W, Below W1.heap.size W1 W → W.cell? ⟨g, i, none⟩ = some (.slice (some ⟨a.g, a.o, none⟩) n a.cap)) := Lib.hid (fun W hW => (hW.cell (p := ⟨g, i, none⟩) (World.block_lt_of_cell? _ _ kc)).trans kc)
  have HK : Hid (∀ W S, Touch S W1 W → ¬ S w.heap.size → ¬ S s → W.cell? ⟨w.heap.size, 0, none⟩ = some (.string ⟨x.k.toArray⟩) ∧ W.cell? ⟨w.heap.size, 1, none⟩ = some (.int .i64 x.n) ∧ W.cell? ⟨s, 1, none⟩ = some (.slice (some ⟨g, 0, none⟩) P.length c)) := Lib.hid (fun W S hT e1 e2 => ⟨(World.cell?_of_block (a := ⟨w.heap.size, 0, none⟩) (hT.block _ hws e1)).trans k0, (World.cell?_of_block (a := ⟨w.heap.size, 1, none⟩) (hT.block _ hws e1)).trans k1, (World.cell?_of_block (a := ⟨s, 1, none⟩) (hT.block s (by omega) e2)).trans ks⟩)
  have HINS : Hid (∀ W4, Below W1.heap.size W1 W4 → ∀ b, W4.heap[b]? = some (.cells #[.string ⟨x.k.toArray⟩, .int .i64 x.n] 42 (0, 0)) → W1.heap.size ≤ b →
      Calls Tryz.prog 66 #[.slice (some ⟨a.g, a.o, none⟩) n a.cap, .int .i64 at_, .slice (some ⟨b, 0, none⟩) 1 1] W4 fun e W5 =>
        ∃ a' : Pl, e = .returned (.slice (some ⟨a'.g, a'.o, none⟩) (n + 1) a'.cap) ∧ n + 1 ≤ a'.cap ∧ a'.cap ≤ maxLen ∧ St (W5.setCell ⟨g, i, none⟩ (.slice (some ⟨a'.g, a'.o, none⟩) (n + 1) a'.cap)) s most v (L.set i a') (P.set i q) ∧ Touch (Owns s v L) W1 (W5.setCell ⟨g, i, none⟩ (.slice (some ⟨a'.g, a'.o, none⟩) (n + 1) a'.cap)) ∧ (∀ k, Owns s v (L.set i a') k → Owns s v L k ∨ W1.heap.size ≤ k) ∧ (W5.cell? ⟨g, i, none⟩).isSome = true ∧ W5.frozen? ⟨g, i, none⟩ = false ∧ Touch (fun k => k = a.g) W1 W5) := Lib.hid (fun W4 hb b hxb hbl => by
    have hI := insertR (hA.below hb) (by rw [pgC_len]) (i := at_) (n := p.length) (xs := rowV x) (by omega) (by omega) (by omega) hxb rfl (by intro u hu; simp only [rowV, List.mem_cons, List.not_mem_nil, or_false] at hu; rcases hu with rfl | rfl <;> rfl) (by omega)
    rw [pgC_ins, ← hq, hn] at hI
    exact hI.mono (fun e W5 hi => h1.renew hv ha hp hb hi hql))
  have HPART : Hid (∀ W (L' : List Pl), St W s most v L' (P.set i q) → Calls Tryz.prog 67 #[.pointer (some ⟨s, 0, none⟩), .int .i64 i] W fun e w' => e = .returned (.tuple #[]) ∧ StPost W s most v L' (cutP (P.set i q) i (q.length / 2) q) w') := Lib.hid (fun W L' h' => part_any h' (List.getElem?_set_self (by omega)) (by omega) (by rw [List.length_set]; omega) (by omega))
  have HPU := Lib.hid hPU
  have HFI := Lib.hid hfi
  have HB1 := Lib.hid hb1
  have hiI : (i : Int) < (P.length : Int) := by omega
  have hlP : (P.length : Int) ≤ 256 := by omega
  have hlP0 : ((P.length : Int) == 0) = false := by rw [beq_eq_false_iff_ne]; omega
  have hQL := Lib.hid hql
  clear hfi k1 ks kc hA hp ha hb1 hat h hv h1 hPU hq hvg hn hnt2 hql hF
  unfold strV
  have HNE : Hid (g ≠ w.heap.size ∧ g ≠ s ∧ a.g ≠ w.heap.size ∧ a.g ≠ s) := Lib.hid ⟨by omega, hgs, by omega, hag.1⟩
  clear hag hal hga hgs hgl hsl hws
  subst hW1
  go_enter Tryz.func43, Tryz.ntmps43
  go_wp2_with fail
  refine (HFI.out).mono ?_
  rintro e w2 ⟨rfl, hb2⟩
  have HB2 := Lib.hid hb2
  clear hb2 HFI k0
  go_wp2_with fail
  refine (HLEN.out _ HB2.out).mono ?_
  rintro e w3 ⟨rfl, hb3⟩
  have HB3 := Lib.hid (HB2.out.trans (hb3.mono HB2.out.size))
  clear hb3 HLEN
  obtain ⟨c0, c1, c2⟩ := HC.out _ HB3.out
  go_wp2_with fail
  have hbn := below_new (w := w3) (.cells #[.string ⟨x.k.toArray⟩, .int .i64 x.n] 42)
  have HCALL := Lib.hid (HINS.out (w3.alloc (.cells #[.string ⟨x.k.toArray⟩, .int .i64 x.n] 42)).drew (HB3.out.trans ((below_drew hbn).mono HB3.out.size)) w3.heap.size (alloc_at w3 _) HB3.out.size)
  have hg1 := HG.out _ HB3.out
  have hg2 := HG.out _ (HB3.out.trans (hbn.mono HB3.out.size))
  have HKB := Lib.hid (HC.out _ (HB3.out.trans (hbn.mono HB3.out.size)))
  clear hbn c0 c1 c2
  refine wp_only ?_
  refine wp_region_held_drew (S := fun W => W.cell? ⟨w.heap.size, 0, none⟩ = some (.string ⟨x.k.toArray⟩) ∧ W.cell? ⟨w.heap.size, 1, none⟩ = some (.int .i64 x.n) ∧ W.cell? ⟨s, 1, none⟩ = some (.slice (some ⟨g, 0, none⟩) P.length c)) (by kernel_rfl) (HC.out _ (below_drew HB3.out)) (fun hHeld => ?_)
  refine wpAnyH_take (i := 0) (oi := { dst := some 61, op := Op.move (Operand.tmp 0), type := 23, pos := "change.go:48", after := #[], guard := none }) (v := ?vv1) rfl (by kernel_rfl) (by kernel_rfl) (by kernel_rfl) (fun _ _ _ h => h) ?hy1 (by assumption) ?rest1
  case hy1 => (refine Or.inl ⟨by rfl, ?_⟩; intro W hSw; (try dsimp only at hSw); go_simp; (try with_reducible rfl))
  try simp only [Act.put, List.setIfInBounds_toArray, List.set_cons_zero, List.set_cons_succ]
  refine wpAnyH_take (i := 1) (oi := { dst := some 62, op := Op.nilCheck (Operand.tmp 61), type := 0, pos := "change.go:48", after := #[{ on := 0, ground := Ground.data }], guard := none }) (v := ?vv2) rfl (by kernel_rfl) (by kernel_rfl) (by kernel_rfl) (fun _ _ _ h => h) ?hy2 (by assumption) ?rest2
  case hy2 => (refine Or.inl ⟨by rfl, ?_⟩; intro W hSw; (try dsimp only at hSw); go_simp; (try with_reducible rfl))
  try simp only [Act.put, List.setIfInBounds_toArray, List.set_cons_zero, List.set_cons_succ]
  refine wpAnyH_take (i := 2) (oi := { dst := some 63, op := Op.fieldAddr 64 (Operand.tmp 62) 1, type := 0, pos := "change.go:48", after := #[{ on := 1, ground := Ground.data }], guard := none }) (v := ?vv3) rfl (by kernel_rfl) (by kernel_rfl) (by kernel_rfl) (fun _ _ _ h => h) ?hy3 (by assumption) ?rest3
  case hy3 => (refine Or.inl ⟨by rfl, ?_⟩; intro W hSw; (try dsimp only at hSw); go_simp; (try with_reducible rfl))
  try simp only [Act.put, List.setIfInBounds_toArray, List.set_cons_zero, List.set_cons_succ]
  refine wpAnyH_take (i := 3) (oi := { dst := some 64, op := Op.load 29 (Operand.tmp 63), type := 29, pos := "change.go:48", after := #[{ on := 2, ground := Ground.data }], guard := none }) (v := ?vv4) rfl (by kernel_rfl) (by kernel_rfl) (by kernel_rfl) (fun _ _ _ h => h) ?hy4 (by assumption) ?rest4
  case hy4 => (refine Or.inl ⟨by rfl, ?_⟩; intro W hSw; (try dsimp only at hSw); go_simp; (try with_reducible rfl))
  try simp only [Act.put, List.setIfInBounds_toArray, List.set_cons_zero, List.set_cons_succ]
  refine wpAnyH_take (i := 4) (oi := { dst := some 65, op := Op.move (Operand.tmp 5), type := 3, pos := "change.go:48", after := #[], guard := none }) (v := ?vv5) rfl (by kernel_rfl) (by kernel_rfl) (by kernel_rfl) (fun _ _ _ h => h) ?hy5 (by assumption) ?rest5
  case hy5 => (refine Or.inl ⟨by rfl, ?_⟩; intro W hSw; (try dsimp only at hSw); go_simp; (try with_reducible rfl))
  try simp only [Act.put, List.setIfInBounds_toArray, List.set_cons_zero, List.set_cons_succ]
  refine wpAnyH_take (i := 5) (oi := { dst := some 66, op := Op.move (Operand.tmp 0), type := 23, pos := "change.go:48", after := #[], guard := none }) (v := ?vv6) rfl (by kernel_rfl) (by kernel_rfl) (by kernel_rfl) (fun _ _ _ h => h) ?hy6 (by assumption) ?rest6
  case hy6 => (refine Or.inl ⟨by rfl, ?_⟩; intro W hSw; (try dsimp only at hSw); go_simp; (try with_reducible rfl))
  try simp only [Act.put, List.setIfInBounds_toArray, List.set_cons_zero, List.set_cons_succ]
  refine wpAnyH_take (i := 6) (oi := { dst := some 67, op := Op.nilCheck (Operand.tmp 66), type := 0, pos := "change.go:48", after := #[{ on := 5, ground := Ground.data }], guard := none }) (v := ?vv7) rfl (by kernel_rfl) (by kernel_rfl) (by kernel_rfl) (fun _ _ _ h => h) ?hy7 (by assumption) ?rest7
  case hy7 => (refine Or.inl ⟨by rfl, ?_⟩; intro W hSw; (try dsimp only at hSw); go_simp; (try with_reducible rfl))
  try simp only [Act.put, List.setIfInBounds_toArray, List.set_cons_zero, List.set_cons_succ]
  refine wpAnyH_take (i := 7) (oi := { dst := some 68, op := Op.fieldAddr 64 (Operand.tmp 67) 1, type := 0, pos := "change.go:48", after := #[{ on := 6, ground := Ground.data }], guard := none }) (v := ?vv8) rfl (by kernel_rfl) (by kernel_rfl) (by kernel_rfl) (fun _ _ _ h => h) ?hy8 (by assumption) ?rest8
  case hy8 => (refine Or.inl ⟨by rfl, ?_⟩; intro W hSw; (try dsimp only at hSw); go_simp; (try with_reducible rfl))
  try simp only [Act.put, List.setIfInBounds_toArray, List.set_cons_zero, List.set_cons_succ]
  refine wpAnyH_take (i := 8) (oi := { dst := some 69, op := Op.load 29 (Operand.tmp 68), type := 29, pos := "change.go:48", after := #[{ on := 7, ground := Ground.data }], guard := none }) (v := ?vv9) rfl (by kernel_rfl) (by kernel_rfl) (by kernel_rfl) (fun _ _ _ h => h) ?hy9 (by assumption) ?rest9
  case hy9 => (refine Or.inl ⟨by rfl, ?_⟩; intro W hSw; (try dsimp only at hSw); go_simp; (try with_reducible rfl))
  try simp only [Act.put, List.setIfInBounds_toArray, List.set_cons_zero, List.set_cons_succ]
  refine wpAnyH_take (i := 9) (oi := { dst := some 70, op := Op.move (Operand.tmp 5), type := 3, pos := "change.go:48", after := #[], guard := none }) (v := ?vv10) rfl (by kernel_rfl) (by kernel_rfl) (by kernel_rfl) (fun _ _ _ h => h) ?hy10 (by assumption) ?rest10
  case hy10 => (refine Or.inl ⟨by rfl, ?_⟩; intro W hSw; (try dsimp only at hSw); go_simp; (try with_reducible rfl))
  try simp only [Act.put, List.setIfInBounds_toArray, List.set_cons_zero, List.set_cons_succ]
  refine wpAnyH_take (i := 10) (oi := { dst := some 71, op := Op.indexAddr 29 (Operand.tmp 69) (Operand.tmp 70), type := 0, pos := "change.go:48", after := #[{ on := 8, ground := Ground.data }, { on := 9, ground := Ground.data }], guard := none }) (v := ?vv11) rfl (by kernel_rfl) (by kernel_rfl) (by kernel_rfl) (fun _ _ _ h => h) ?hy11 (by assumption) ?rest11
  case hy11 => (refine Or.inl ⟨by rfl, ?_⟩; intro W hSw; (try dsimp only at hSw); go_simp; (try with_reducible rfl))
  try simp only [Act.put, List.setIfInBounds_toArray, List.set_cons_zero, List.set_cons_succ]
  refine wpAnyH_take (i := 12) (oi := { dst := some 73, op := Op.move (Operand.tmp 6), type := 3, pos := "change.go:48", after := #[], guard := none }) (v := ?vv12) rfl (by kernel_rfl) (by kernel_rfl) (by kernel_rfl) (fun _ _ _ h => h) ?hy12 (by assumption) ?rest12
  case hy12 => (refine Or.inl ⟨by rfl, ?_⟩; intro W hSw; (try dsimp only at hSw); go_simp; (try with_reducible rfl))
  try simp only [Act.put, List.setIfInBounds_toArray, List.set_cons_zero, List.set_cons_succ]
  refine wpAnyH_take (i := 13) (oi := { dst := some 74, op := Op.load 42 (Operand.tmp 3), type := 42, pos := "change.go:48", after := #[], guard := none }) (v := ?vv13) rfl (by kernel_rfl) (by kernel_rfl) (by kernel_rfl) (fun _ _ _ h => h) ?hy13 (by assumption) ?rest13
  case hy13 => (refine Or.inl ⟨by rfl, ?_⟩; intro W hSw; (try dsimp only at hSw); go_simp; (try with_reducible rfl))
  try simp only [Act.put, List.setIfInBounds_toArray, List.set_cons_zero, List.set_cons_succ]
  refine wpAnyH_ready (rs := [11, 14]) (by kernel_rfl) (by simp) ?_
  refine AllReadyH.cons (o := { dst := some 72, op := Op.load 40 (Operand.tmp 71), type := 40, pos := "change.go:48", after := #[{ on := 10, ground := Ground.data }], guard := none }) rfl (fun K hK => ?step14) ?more14
  (go_simp)
  refine hK.out _ _ ?hS14 (fun hHeld => ?rr14)
  case hS14 => (exact HC.out _ (below_drew HB3.out))
  clear hK K
  try simp only [Act.put, List.setIfInBounds_toArray, List.set_cons_zero, List.set_cons_succ]
  · refine wpAnyH_ready (rs := [14]) (by kernel_rfl) (by simp) ?_
    refine AllReadyH.cons (o := { dst := some 75, op := Op.buildSlice 40 1 #[(0, Operand.tmp 74)], type := 40, pos := "change.go:48", after := #[{ on := 13, ground := Ground.data }], guard := none }) rfl (fun K hK => ?step15) ?more15
    case more15 => exact AllReadyH.nil
    (go_simp)
    refine hK.out _ _ ?hS15 (fun hHeld => ?rr15)
    case hS15 => (exact HKB.out)
    clear hK K
    try simp only [Act.put, List.setIfInBounds_toArray, List.set_cons_zero, List.set_cons_succ]
    refine wpAnyH_ready (rs := [15]) (by kernel_rfl) (by simp) ?_
    refine AllReadyH.cons (o := { dst := some 76, op := Op.call { callee := Callee.value (Operand.func 66), args := #[Operand.tmp 72, Operand.tmp 73, Operand.tmp 75], argTypes := #[40, 3, 40] }, type := 40, pos := "change.go:48", after := #[{ on := 11, ground := Ground.data }, { on := 12, ground := Ground.data }, { on := 14, ground := Ground.data }], guard := none }) rfl (fun K hK => ?step16) ?more16
    case more16 => exact AllReadyH.nil
    ((go_simp; go_at_call 66; refine (HCALL.out).mono ?_; rintro e w5 ⟨a', rfl, h2, h3, h4, h5, h6, h7, h8, h9⟩; have HT9 := Lib.hid h9; clear h9; go_wp2_with fail))
    refine hK.out _ _ ?hS16 (fun hHeld => ?rr16)
    case hS16 => (exact HK.out _ _ HT9.out (fun e => HNE.out.2.2.1 e.symm) (fun e => HNE.out.2.2.2 e.symm))
    clear hK K
    try simp only [Act.put, List.setIfInBounds_toArray, List.set_cons_zero, List.set_cons_succ]
    obtain ⟨xx, h7⟩ := Option.isSome_iff_exists.1 h7
    have hk5 := HK.out _ (fun k => k = a.g ∨ k = g) ((HT9.out.mono (fun k _ e => .inl e)).trans (Touch.setCell (S := fun k => k = g) (Touch.refl _ w5) ⟨g, i, none⟩ (fun _ => rfl) (.slice (some ⟨a'.g, a'.o, none⟩) (n + 1) a'.cap)) (fun k _ e => .inr e)) (fun e => e.elim (fun e => HNE.out.2.2.1 e.symm) (fun e => HNE.out.1 e.symm)) (fun e => e.elim (fun e => HNE.out.2.2.2 e.symm) (fun e => HNE.out.2.1 e.symm))
    have HK5 := Lib.hid hk5
    have H4 := Lib.hid h4
    have H5 := Lib.hid h5
    have H6 := Lib.hid h6
    have hc5 := (World.cell?_setCell_same' w5 ⟨g, i, none⟩ (.slice (some ⟨a'.g, a'.o, none⟩) (n + 1) a'.cap) (by rw [h7]; rfl))
    have HC5 := Lib.hid hc5
    clear hk5 h4 h5 h6 hc5 HCALL
    refine wpAnyH_take (i := 16) (oi := { dst := some 77, op := Op.indexAddr 29 (Operand.tmp 64) (Operand.tmp 65), type := 0, pos := "change.go:48", after := #[{ on := 3, ground := Ground.data }, { on := 4, ground := Ground.data }, { on := 0, ground := Ground.phase }, { on := 1, ground := Ground.phase }, { on := 2, ground := Ground.phase }, { on := 3, ground := Ground.phase }, { on := 4, ground := Ground.phase }, { on := 5, ground := Ground.phase }, { on := 6, ground := Ground.phase }, { on := 7, ground := Ground.phase }, { on := 8, ground := Ground.phase }, { on := 9, ground := Ground.phase }, { on := 10, ground := Ground.phase }, { on := 11, ground := Ground.phase }, { on := 12, ground := Ground.phase }, { on := 13, ground := Ground.phase }, { on := 14, ground := Ground.phase }, { on := 15, ground := Ground.phase }], guard := none }) (v := ?vv17) rfl (by kernel_rfl) (by kernel_rfl) (by kernel_rfl) (fun _ _ _ h => h) ?hy17 (by assumption) ?rest17
    case hy17 => (refine Or.inl ⟨by rfl, ?_⟩; intro W hSw; (try dsimp only at hSw); go_simp; (try with_reducible rfl))
    try simp only [Act.put, List.setIfInBounds_toArray, List.set_cons_zero, List.set_cons_succ]
    refine wpAnyH_ready (rs := [17]) (by kernel_rfl) (by simp) ?_
    refine AllReadyH.cons (o := { dst := none, op := Op.store 40 (Operand.tmp 77) (Operand.tmp 76), type := 0, pos := "change.go:48", after := #[{ on := 16, ground := Ground.data }, { on := 15, ground := Ground.data }, { on := 15, ground := Ground.chain }, { on := 0, ground := Ground.phase }, { on := 1, ground := Ground.phase }, { on := 2, ground := Ground.phase }, { on := 3, ground := Ground.phase }, { on := 4, ground := Ground.phase }, { on := 5, ground := Ground.phase }, { on := 6, ground := Ground.phase }, { on := 7, ground := Ground.phase }, { on := 8, ground := Ground.phase }, { on := 9, ground := Ground.phase }, { on := 10, ground := Ground.phase }, { on := 11, ground := Ground.phase }, { on := 12, ground := Ground.phase }, { on := 13, ground := Ground.phase }, { on := 14, ground := Ground.phase }, { on := 15, ground := Ground.phase }], guard := none }) rfl (fun K hK => ?step18) ?more18
    case more18 => exact AllReadyH.nil
    (go_simp)
    refine hK.out _ _ ?hS18 (fun hHeld => ?rr18)
    case hS18 => (exact HK5.out)
    clear hK K
    try simp only [Act.put, List.setIfInBounds_toArray, List.set_cons_zero, List.set_cons_succ]
    refine wpAnyH_done (by kernel_rfl) ?_ _
    clear hHeld h7 h8 HC HG HK HINS
    dsimp only [onlyN]
    obtain ⟨d0, d1, d2⟩ := HK5.out
    have dm := cell_of H4.out.head 0
    have dg := HC5.out
    obtain ⟨W6, hW6⟩ : ∃ W6, W6 = w5.setCell ⟨g, i, none⟩ (.slice (some ⟨a'.g, a'.o, none⟩) (n + 1) a'.cap) := ⟨_, rfl⟩
    rw [← hW6] at d2 dm dg H4 H5 ⊢
    have dm : W6.cell? ⟨s, 0, none⟩ = some (.int .i64 most) := dm
    clear d0 d1 HK5 HC5 hW6
    by_cases hov : most < n + 1
    · have hov1 : (most : Int) < (n : Int) + 1 := by omega
      have HE : Hid (putP most P x = (cutP (P.set i q) i (q.length / 2) q, 0)) := Lib.hid (by rw [HPU.out, if_pos (by rw [hQL.out]; exact hov)])
      have HPC := Lib.hid (HPART.out W6.drew _ (H4.out.below (below_drew (Below.refl _ _))))
      have HFIN := Lib.hid (fun (W : World) (hq : StPost W6.drew s most v (L.set i a') (cutP (P.set i q) i (q.length / 2) q) W) => StPost.ahead HB1.out (StPost.trans H5.out H6.out (StPost.ahead (below_drew (Below.refl _ _)) hq)))
      clear HPART HPU H4 H5 H6
      go_wp2_with fail
      refine wp_only ?_
      refine wp_region_held_drew (S := fun W => W.cell? ⟨s, 0, none⟩ = some (.int .i64 most) ∧ W.cell? ⟨s, 1, none⟩ = some (.slice (some ⟨g, 0, none⟩) P.length c) ∧ W.cell? ⟨g, i, none⟩ = some (.slice (some ⟨a'.g, a'.o, none⟩) (n + 1) a'.cap)) (by kernel_rfl) ⟨dm, d2, dg⟩ (fun hHeld => ?_)
      clear dm d2 dg
      refine wpAnyH_take (i := 0) (oi := { dst := some 78, op := Op.move (Operand.tmp 0), type := 23, pos := "change.go:49", after := #[], guard := none }) (v := ?vv19) rfl (by kernel_rfl) (by kernel_rfl) (by kernel_rfl) (fun _ _ _ h => h) ?hy19 (by assumption) ?rest19
      case hy19 => (refine Or.inl ⟨by rfl, ?_⟩; intro W hSw; (try dsimp only at hSw); go_simp; (try with_reducible rfl))
      try simp only [Act.put, List.setIfInBounds_toArray, List.set_cons_zero, List.set_cons_succ]
      refine wpAnyH_take (i := 1) (oi := { dst := some 79, op := Op.nilCheck (Operand.tmp 78), type := 0, pos := "change.go:49", after := #[{ on := 0, ground := Ground.data }], guard := none }) (v := ?vv20) rfl (by kernel_rfl) (by kernel_rfl) (by kernel_rfl) (fun _ _ _ h => h) ?hy20 (by assumption) ?rest20
      case hy20 => (refine Or.inl ⟨by rfl, ?_⟩; intro W hSw; (try dsimp only at hSw); go_simp; (try with_reducible rfl))
      try simp only [Act.put, List.setIfInBounds_toArray, List.set_cons_zero, List.set_cons_succ]
      refine wpAnyH_take (i := 2) (oi := { dst := some 80, op := Op.fieldAddr 64 (Operand.tmp 79) 1, type := 0, pos := "change.go:49", after := #[{ on := 1, ground := Ground.data }], guard := none }) (v := ?vv21) rfl (by kernel_rfl) (by kernel_rfl) (by kernel_rfl) (fun _ _ _ h => h) ?hy21 (by assumption) ?rest21
      case hy21 => (refine Or.inl ⟨by rfl, ?_⟩; intro W hSw; (try dsimp only at hSw); go_simp; (try with_reducible rfl))
      try simp only [Act.put, List.setIfInBounds_toArray, List.set_cons_zero, List.set_cons_succ]
      refine wpAnyH_take (i := 3) (oi := { dst := some 81, op := Op.load 29 (Operand.tmp 80), type := 29, pos := "change.go:49", after := #[{ on := 2, ground := Ground.data }], guard := none }) (v := ?vv22) rfl (by kernel_rfl) (by kernel_rfl) (by kernel_rfl) (fun _ _ _ h => h) ?hy22 (by assumption) ?rest22
      case hy22 => (refine Or.inl ⟨by rfl, ?_⟩; intro W hSw; (try dsimp only at hSw); go_simp; (try with_reducible rfl))
      try simp only [Act.put, List.setIfInBounds_toArray, List.set_cons_zero, List.set_cons_succ]
      refine wpAnyH_take (i := 4) (oi := { dst := some 82, op := Op.move (Operand.tmp 5), type := 3, pos := "change.go:49", after := #[], guard := none }) (v := ?vv23) rfl (by kernel_rfl) (by kernel_rfl) (by kernel_rfl) (fun _ _ _ h => h) ?hy23 (by assumption) ?rest23
      case hy23 => (refine Or.inl ⟨by rfl, ?_⟩; intro W hSw; (try dsimp only at hSw); go_simp; (try with_reducible rfl))
      try simp only [Act.put, List.setIfInBounds_toArray, List.set_cons_zero, List.set_cons_succ]
      refine wpAnyH_take (i := 5) (oi := { dst := some 83, op := Op.indexAddr 29 (Operand.tmp 81) (Operand.tmp 82), type := 0, pos := "change.go:49", after := #[{ on := 3, ground := Ground.data }, { on := 4, ground := Ground.data }], guard := none }) (v := ?vv24) rfl (by kernel_rfl) (by kernel_rfl) (by kernel_rfl) (fun _ _ _ h => h) ?hy24 (by assumption) ?rest24
      case hy24 => (refine Or.inl ⟨by rfl, ?_⟩; intro W hSw; (try dsimp only at hSw); go_simp; (try with_reducible rfl))
      try simp only [Act.put, List.setIfInBounds_toArray, List.set_cons_zero, List.set_cons_succ]
      refine wpAnyH_take (i := 6) (oi := { dst := some 84, op := Op.load 40 (Operand.tmp 83), type := 40, pos := "change.go:49", after := #[{ on := 5, ground := Ground.data }], guard := none }) (v := ?vv25) rfl (by kernel_rfl) (by kernel_rfl) (by kernel_rfl) (fun _ _ _ h => h) ?hy25 (by assumption) ?rest25
      case hy25 => (refine Or.inl ⟨by rfl, ?_⟩; intro W hSw; (try dsimp only at hSw); go_simp; (try with_reducible rfl))
      try simp only [Act.put, List.setIfInBounds_toArray, List.set_cons_zero, List.set_cons_succ]
      refine wpAnyH_take (i := 7) (oi := { dst := some 85, op := Op.call { callee := Callee.builtin Builtin.len, args := #[Operand.tmp 84], argTypes := #[40] }, type := 3, pos := "change.go:49", after := #[{ on := 6, ground := Ground.data }], guard := none }) (v := ?vv26) rfl (by kernel_rfl) (by kernel_rfl) (by kernel_rfl) (fun _ _ _ h => h) ?hy26 (by assumption) ?rest26
      case hy26 => (refine Or.inl ⟨by rfl, ?_⟩; intro W hSw; (try dsimp only at hSw); go_simp; (try with_reducible rfl))
      try simp only [Act.put, List.setIfInBounds_toArray, List.set_cons_zero, List.set_cons_succ]
      refine wpAnyH_take (i := 8) (oi := { dst := some 86, op := Op.move (Operand.tmp 0), type := 23, pos := "change.go:49", after := #[], guard := none }) (v := ?vv27) rfl (by kernel_rfl) (by kernel_rfl) (by kernel_rfl) (fun _ _ _ h => h) ?hy27 (by assumption) ?rest27
      case hy27 => (refine Or.inl ⟨by rfl, ?_⟩; intro W hSw; (try dsimp only at hSw); go_simp; (try with_reducible rfl))
      try simp only [Act.put, List.setIfInBounds_toArray, List.set_cons_zero, List.set_cons_succ]
      refine wpAnyH_take (i := 9) (oi := { dst := some 87, op := Op.nilCheck (Operand.tmp 86), type := 0, pos := "change.go:49", after := #[{ on := 8, ground := Ground.data }], guard := none }) (v := ?vv28) rfl (by kernel_rfl) (by kernel_rfl) (by kernel_rfl) (fun _ _ _ h => h) ?hy28 (by assumption) ?rest28
      case hy28 => (refine Or.inl ⟨by rfl, ?_⟩; intro W hSw; (try dsimp only at hSw); go_simp; (try with_reducible rfl))
      try simp only [Act.put, List.setIfInBounds_toArray, List.set_cons_zero, List.set_cons_succ]
      refine wpAnyH_take (i := 10) (oi := { dst := some 88, op := Op.fieldAddr 64 (Operand.tmp 87) 0, type := 0, pos := "change.go:49", after := #[{ on := 9, ground := Ground.data }], guard := none }) (v := ?vv29) rfl (by kernel_rfl) (by kernel_rfl) (by kernel_rfl) (fun _ _ _ h => h) ?hy29 (by assumption) ?rest29
      case hy29 => (refine Or.inl ⟨by rfl, ?_⟩; intro W hSw; (try dsimp only at hSw); go_simp; (try with_reducible rfl))
      try simp only [Act.put, List.setIfInBounds_toArray, List.set_cons_zero, List.set_cons_succ]
      refine wpAnyH_take (i := 11) (oi := { dst := some 89, op := Op.load 3 (Operand.tmp 88), type := 3, pos := "change.go:49", after := #[{ on := 10, ground := Ground.data }], guard := none }) (v := ?vv30) rfl (by kernel_rfl) (by kernel_rfl) (by kernel_rfl) (fun _ _ _ h => h) ?hy30 (by assumption) ?rest30
      case hy30 => (refine Or.inl ⟨by rfl, ?_⟩; intro W hSw; (try dsimp only at hSw); go_simp; (try with_reducible rfl))
      try simp only [Act.put, List.setIfInBounds_toArray, List.set_cons_zero, List.set_cons_succ]
      refine wpAnyH_take (i := 12) (oi := { dst := some 90, op := Op.binOp BinOp.gtr 3 (Operand.tmp 85) (Operand.tmp 89) 3, type := 4, pos := "change.go:49", after := #[{ on := 7, ground := Ground.data }, { on := 11, ground := Ground.data }], guard := none }) (v := (.bool true)) rfl (by kernel_rfl) (by kernel_rfl) (by kernel_rfl) (fun _ _ _ h => h) ?hy31 (by assumption) ?rest31
      case hy31 => ((refine Or.inl ⟨by rfl, ?_⟩; intro W hSw; go_simp; done))
      try simp only [Act.put, List.setIfInBounds_toArray, List.set_cons_zero, List.set_cons_succ]
      refine wpAnyH_done (by kernel_rfl) ?_ _
      clear hHeld
      dsimp only [onlyN]
      go_wp2_with fail
      refine (HPC.out).mono ?_
      rintro e w7 ⟨rfl, hpost⟩
      have HF7 := Lib.hid (HFIN.out _ hpost)
      clear hpost HPC HFIN
      go_wp2_with fail
      go_ret
      exact ⟨[], .nilIface, rfl, rfl, (fun e h => by cases h), by simp, by rw [HE.out]; rfl, by rw [HE.out]; exact HF7.out⟩
    · have hov1 : ¬ (most : Int) < (n : Int) + 1 := by omega
      have HE : Hid (putP most P x = (P.set i q, 0)) := Lib.hid (by rw [HPU.out, if_neg (by rw [hQL.out]; exact hov)])
      have HFIN := Lib.hid (StPost.ahead HB1.out ⟨v, _, H4.out, H5.out, H6.out⟩)
      clear HPART HPU H4 H5 H6
      go_wp2_with fail
      refine wp_only ?_
      refine wp_region_held_drew (S := fun W => W.cell? ⟨s, 0, none⟩ = some (.int .i64 most) ∧ W.cell? ⟨s, 1, none⟩ = some (.slice (some ⟨g, 0, none⟩) P.length c) ∧ W.cell? ⟨g, i, none⟩ = some (.slice (some ⟨a'.g, a'.o, none⟩) (n + 1) a'.cap)) (by kernel_rfl) ⟨dm, d2, dg⟩ (fun hHeld => ?_)
      clear dm d2 dg
      refine wpAnyH_take (i := 0) (oi := { dst := some 78, op := Op.move (Operand.tmp 0), type := 23, pos := "change.go:49", after := #[], guard := none }) (v := ?vv32) rfl (by kernel_rfl) (by kernel_rfl) (by kernel_rfl) (fun _ _ _ h => h) ?hy32 (by assumption) ?rest32
      case hy32 => (refine Or.inl ⟨by rfl, ?_⟩; intro W hSw; (try dsimp only at hSw); go_simp; (try with_reducible rfl))
      try simp only [Act.put, List.setIfInBounds_toArray, List.set_cons_zero, List.set_cons_succ]
      refine wpAnyH_take (i := 1) (oi := { dst := some 79, op := Op.nilCheck (Operand.tmp 78), type := 0, pos := "change.go:49", after := #[{ on := 0, ground := Ground.data }], guard := none }) (v := ?vv33) rfl (by kernel_rfl) (by kernel_rfl) (by kernel_rfl) (fun _ _ _ h => h) ?hy33 (by assumption) ?rest33
      case hy33 => (refine Or.inl ⟨by rfl, ?_⟩; intro W hSw; (try dsimp only at hSw); go_simp; (try with_reducible rfl))
      try simp only [Act.put, List.setIfInBounds_toArray, List.set_cons_zero, List.set_cons_succ]
      refine wpAnyH_take (i := 2) (oi := { dst := some 80, op := Op.fieldAddr 64 (Operand.tmp 79) 1, type := 0, pos := "change.go:49", after := #[{ on := 1, ground := Ground.data }], guard := none }) (v := ?vv34) rfl (by kernel_rfl) (by kernel_rfl) (by kernel_rfl) (fun _ _ _ h => h) ?hy34 (by assumption) ?rest34
      case hy34 => (refine Or.inl ⟨by rfl, ?_⟩; intro W hSw; (try dsimp only at hSw); go_simp; (try with_reducible rfl))
      try simp only [Act.put, List.setIfInBounds_toArray, List.set_cons_zero, List.set_cons_succ]
      refine wpAnyH_take (i := 3) (oi := { dst := some 81, op := Op.load 29 (Operand.tmp 80), type := 29, pos := "change.go:49", after := #[{ on := 2, ground := Ground.data }], guard := none }) (v := ?vv35) rfl (by kernel_rfl) (by kernel_rfl) (by kernel_rfl) (fun _ _ _ h => h) ?hy35 (by assumption) ?rest35
      case hy35 => (refine Or.inl ⟨by rfl, ?_⟩; intro W hSw; (try dsimp only at hSw); go_simp; (try with_reducible rfl))
      try simp only [Act.put, List.setIfInBounds_toArray, List.set_cons_zero, List.set_cons_succ]
      refine wpAnyH_take (i := 4) (oi := { dst := some 82, op := Op.move (Operand.tmp 5), type := 3, pos := "change.go:49", after := #[], guard := none }) (v := ?vv36) rfl (by kernel_rfl) (by kernel_rfl) (by kernel_rfl) (fun _ _ _ h => h) ?hy36 (by assumption) ?rest36
      case hy36 => (refine Or.inl ⟨by rfl, ?_⟩; intro W hSw; (try dsimp only at hSw); go_simp; (try with_reducible rfl))
      try simp only [Act.put, List.setIfInBounds_toArray, List.set_cons_zero, List.set_cons_succ]
      refine wpAnyH_take (i := 5) (oi := { dst := some 83, op := Op.indexAddr 29 (Operand.tmp 81) (Operand.tmp 82), type := 0, pos := "change.go:49", after := #[{ on := 3, ground := Ground.data }, { on := 4, ground := Ground.data }], guard := none }) (v := ?vv37) rfl (by kernel_rfl) (by kernel_rfl) (by kernel_rfl) (fun _ _ _ h => h) ?hy37 (by assumption) ?rest37
      case hy37 => (refine Or.inl ⟨by rfl, ?_⟩; intro W hSw; (try dsimp only at hSw); go_simp; (try with_reducible rfl))
      try simp only [Act.put, List.setIfInBounds_toArray, List.set_cons_zero, List.set_cons_succ]
      refine wpAnyH_take (i := 6) (oi := { dst := some 84, op := Op.load 40 (Operand.tmp 83), type := 40, pos := "change.go:49", after := #[{ on := 5, ground := Ground.data }], guard := none }) (v := ?vv38) rfl (by kernel_rfl) (by kernel_rfl) (by kernel_rfl) (fun _ _ _ h => h) ?hy38 (by assumption) ?rest38
      case hy38 => (refine Or.inl ⟨by rfl, ?_⟩; intro W hSw; (try dsimp only at hSw); go_simp; (try with_reducible rfl))
      try simp only [Act.put, List.setIfInBounds_toArray, List.set_cons_zero, List.set_cons_succ]
      refine wpAnyH_take (i := 7) (oi := { dst := some 85, op := Op.call { callee := Callee.builtin Builtin.len, args := #[Operand.tmp 84], argTypes := #[40] }, type := 3, pos := "change.go:49", after := #[{ on := 6, ground := Ground.data }], guard := none }) (v := ?vv39) rfl (by kernel_rfl) (by kernel_rfl) (by kernel_rfl) (fun _ _ _ h => h) ?hy39 (by assumption) ?rest39
      case hy39 => (refine Or.inl ⟨by rfl, ?_⟩; intro W hSw; (try dsimp only at hSw); go_simp; (try with_reducible rfl))
      try simp only [Act.put, List.setIfInBounds_toArray, List.set_cons_zero, List.set_cons_succ]
      refine wpAnyH_take (i := 8) (oi := { dst := some 86, op := Op.move (Operand.tmp 0), type := 23, pos := "change.go:49", after := #[], guard := none }) (v := ?vv40) rfl (by kernel_rfl) (by kernel_rfl) (by kernel_rfl) (fun _ _ _ h => h) ?hy40 (by assumption) ?rest40
      case hy40 => (refine Or.inl ⟨by rfl, ?_⟩; intro W hSw; (try dsimp only at hSw); go_simp; (try with_reducible rfl))
      try simp only [Act.put, List.setIfInBounds_toArray, List.set_cons_zero, List.set_cons_succ]
      refine wpAnyH_take (i := 9) (oi := { dst := some 87, op := Op.nilCheck (Operand.tmp 86), type := 0, pos := "change.go:49", after := #[{ on := 8, ground := Ground.data }], guard := none }) (v := ?vv41) rfl (by kernel_rfl) (by kernel_rfl) (by kernel_rfl) (fun _ _ _ h => h) ?hy41 (by assumption) ?rest41
      case hy41 => (refine Or.inl ⟨by rfl, ?_⟩; intro W hSw; (try dsimp only at hSw); go_simp; (try with_reducible rfl))
      try simp only [Act.put, List.setIfInBounds_toArray, List.set_cons_zero, List.set_cons_succ]
      refine wpAnyH_take (i := 10) (oi := { dst := some 88, op := Op.fieldAddr 64 (Operand.tmp 87) 0, type := 0, pos := "change.go:49", after := #[{ on := 9, ground := Ground.data }], guard := none }) (v := ?vv42) rfl (by kernel_rfl) (by kernel_rfl) (by kernel_rfl) (fun _ _ _ h => h) ?hy42 (by assumption) ?rest42
      case hy42 => (refine Or.inl ⟨by rfl, ?_⟩; intro W hSw; (try dsimp only at hSw); go_simp; (try with_reducible rfl))
      try simp only [Act.put, List.setIfInBounds_toArray, List.set_cons_zero, List.set_cons_succ]
      refine wpAnyH_take (i := 11) (oi := { dst := some 89, op := Op.load 3 (Operand.tmp 88), type := 3, pos := "change.go:49", after := #[{ on := 10, ground := Ground.data }], guard := none }) (v := ?vv43) rfl (by kernel_rfl) (by kernel_rfl) (by kernel_rfl) (fun _ _ _ h => h) ?hy43 (by assumption) ?rest43
      case hy43 => (refine Or.inl ⟨by rfl, ?_⟩; intro W hSw; (try dsimp only at hSw); go_simp; (try with_reducible rfl))
      try simp only [Act.put, List.setIfInBounds_toArray, List.set_cons_zero, List.set_cons_succ]
      refine wpAnyH_take (i := 12) (oi := { dst := some 90, op := Op.binOp BinOp.gtr 3 (Operand.tmp 85) (Operand.tmp 89) 3, type := 4, pos := "change.go:49", after := #[{ on := 7, ground := Ground.data }, { on := 11, ground := Ground.data }], guard := none }) (v := (.bool false)) rfl (by kernel_rfl) (by kernel_rfl) (by kernel_rfl) (fun _ _ _ h => h) ?hy44 (by assumption) ?rest44
      case hy44 => ((refine Or.inl ⟨by rfl, ?_⟩; intro W hSw; go_simp; done))
      try simp only [Act.put, List.setIfInBounds_toArray, List.set_cons_zero, List.set_cons_succ]
      refine wpAnyH_done (by kernel_rfl) ?_ _
      clear hHeld
      dsimp only [onlyN]
      go_wp2_with fail
      go_ret
      exact ⟨[], .nilIface, rfl, rfl, (fun e h => by cases h), by simp, by rw [HE.out]; rfl, by rw [HE.out]; exact HFIN.out.after (below_drew (Below.refl _ _))⟩
  · refine AllReadyH.cons (o := { dst := some 75, op := Op.buildSlice 40 1 #[(0, Operand.tmp 74)], type := 40, pos := "change.go:48", after := #[{ on := 13, ground := Ground.data }], guard := none }) rfl (fun K hK => ?step45) ?more45
    case more45 => exact AllReadyH.nil
    (go_simp)
    refine hK.out _ _ ?hS45 (fun hHeld => ?rr45)
    case hS45 => (exact HKB.out)
    clear hK K
    try simp only [Act.put, List.setIfInBounds_toArray, List.set_cons_zero, List.set_cons_succ]
    refine wpAnyH_ready (rs := [11]) (by kernel_rfl) (by simp) ?_
    refine AllReadyH.cons (o := { dst := some 72, op := Op.load 40 (Operand.tmp 71), type := 40, pos := "change.go:48", after := #[{ on := 10, ground := Ground.data }], guard := none }) rfl (fun K hK => ?step46) ?more46
    case more46 => exact AllReadyH.nil
    (go_simp)
    refine hK.out _ _ ?hS46 (fun hHeld => ?rr46)
    case hS46 => (exact HKB.out)
    clear hK K
    try simp only [Act.put, List.setIfInBounds_toArray, List.set_cons_zero, List.set_cons_succ]
    refine wpAnyH_ready (rs := [15]) (by kernel_rfl) (by simp) ?_
    refine AllReadyH.cons (o := { dst := some 76, op := Op.call { callee := Callee.value (Operand.func 66), args := #[Operand.tmp 72, Operand.tmp 73, Operand.tmp 75], argTypes := #[40, 3, 40] }, type := 40, pos := "change.go:48", after := #[{ on := 11, ground := Ground.data }, { on := 12, ground := Ground.data }, { on := 14, ground := Ground.data }], guard := none }) rfl (fun K hK => ?step47) ?more47
    case more47 => exact AllReadyH.nil
    ((go_simp; go_at_call 66; refine (HCALL.out).mono ?_; rintro e w5 ⟨a', rfl, h2, h3, h4, h5, h6, h7, h8, h9⟩; have HT9 := Lib.hid h9; clear h9; go_wp2_with fail))
    refine hK.out _ _ ?hS47 (fun hHeld => ?rr47)
    case hS47 => (exact HK.out _ _ HT9.out (fun e => HNE.out.2.2.1 e.symm) (fun e => HNE.out.2.2.2 e.symm))
    clear hK K
    try simp only [Act.put, List.setIfInBounds_toArray, List.set_cons_zero, List.set_cons_succ]
    obtain ⟨xx, h7⟩ := Option.isSome_iff_exists.1 h7
    have hk5 := HK.out _ (fun k => k = a.g ∨ k = g) ((HT9.out.mono (fun k _ e => .inl e)).trans (Touch.setCell (S := fun k => k = g) (Touch.refl _ w5) ⟨g, i, none⟩ (fun _ => rfl) (.slice (some ⟨a'.g, a'.o, none⟩) (n + 1) a'.cap)) (fun k _ e => .inr e)) (fun e => e.elim (fun e => HNE.out.2.2.1 e.symm) (fun e => HNE.out.1 e.symm)) (fun e => e.elim (fun e => HNE.out.2.2.2 e.symm) (fun e => HNE.out.2.1 e.symm))
    have HK5 := Lib.hid hk5
    have H4 := Lib.hid h4
    have H5 := Lib.hid h5
    have H6 := Lib.hid h6
    have hc5 := (World.cell?_setCell_same' w5 ⟨g, i, none⟩ (.slice (some ⟨a'.g, a'.o, none⟩) (n + 1) a'.cap) (by rw [h7]; rfl))
    have HC5 := Lib.hid hc5
    clear hk5 h4 h5 h6 hc5 HCALL
    refine wpAnyH_take (i := 16) (oi := { dst := some 77, op := Op.indexAddr 29 (Operand.tmp 64) (Operand.tmp 65), type := 0, pos := "change.go:48", after := #[{ on := 3, ground := Ground.data }, { on := 4, ground := Ground.data }, { on := 0, ground := Ground.phase }, { on := 1, ground := Ground.phase }, { on := 2, ground := Ground.phase }, { on := 3, ground := Ground.phase }, { on := 4, ground := Ground.phase }, { on := 5, ground := Ground.phase }, { on := 6, ground := Ground.phase }, { on := 7, ground := Ground.phase }, { on := 8, ground := Ground.phase }, { on := 9, ground := Ground.phase }, { on := 10, ground := Ground.phase }, { on := 11, ground := Ground.phase }, { on := 12, ground := Ground.phase }, { on := 13, ground := Ground.phase }, { on := 14, ground := Ground.phase }, { on := 15, ground := Ground.phase }], guard := none }) (v := ?vv48) rfl (by kernel_rfl) (by kernel_rfl) (by kernel_rfl) (fun _ _ _ h => h) ?hy48 (by assumption) ?rest48
    case hy48 => (refine Or.inl ⟨by rfl, ?_⟩; intro W hSw; (try dsimp only at hSw); go_simp; (try with_reducible rfl))
    try simp only [Act.put, List.setIfInBounds_toArray, List.set_cons_zero, List.set_cons_succ]
    refine wpAnyH_ready (rs := [17]) (by kernel_rfl) (by simp) ?_
    refine AllReadyH.cons (o := { dst := none, op := Op.store 40 (Operand.tmp 77) (Operand.tmp 76), type := 0, pos := "change.go:48", after := #[{ on := 16, ground := Ground.data }, { on := 15, ground := Ground.data }, { on := 15, ground := Ground.chain }, { on := 0, ground := Ground.phase }, { on := 1, ground := Ground.phase }, { on := 2, ground := Ground.phase }, { on := 3, ground := Ground.phase }, { on := 4, ground := Ground.phase }, { on := 5, ground := Ground.phase }, { on := 6, ground := Ground.phase }, { on := 7, ground := Ground.phase }, { on := 8, ground := Ground.phase }, { on := 9, ground := Ground.phase }, { on := 10, ground := Ground.phase }, { on := 11, ground := Ground.phase }, { on := 12, ground := Ground.phase }, { on := 13, ground := Ground.phase }, { on := 14, ground := Ground.phase }, { on := 15, ground := Ground.phase }], guard := none }) rfl (fun K hK => ?step49) ?more49
    case more49 => exact AllReadyH.nil
    (go_simp)
    refine hK.out _ _ ?hS49 (fun hHeld => ?rr49)
    case hS49 => (exact HK5.out)
    clear hK K
    try simp only [Act.put, List.setIfInBounds_toArray, List.set_cons_zero, List.set_cons_succ]
    refine wpAnyH_done (by kernel_rfl) ?_ _
    clear hHeld h7 h8 HC HG HK HINS
    dsimp only [onlyN]
    obtain ⟨d0, d1, d2⟩ := HK5.out
    have dm := cell_of H4.out.head 0
    have dg := HC5.out
    obtain ⟨W6, hW6⟩ : ∃ W6, W6 = w5.setCell ⟨g, i, none⟩ (.slice (some ⟨a'.g, a'.o, none⟩) (n + 1) a'.cap) := ⟨_, rfl⟩
    rw [← hW6] at d2 dm dg H4 H5 ⊢
    have dm : W6.cell? ⟨s, 0, none⟩ = some (.int .i64 most) := dm
    clear d0 d1 HK5 HC5 hW6
    by_cases hov : most < n + 1
    · have hov1 : (most : Int) < (n : Int) + 1 := by omega
      have HE : Hid (putP most P x = (cutP (P.set i q) i (q.length / 2) q, 0)) := Lib.hid (by rw [HPU.out, if_pos (by rw [hQL.out]; exact hov)])
      have HPC := Lib.hid (HPART.out W6.drew _ (H4.out.below (below_drew (Below.refl _ _))))
      have HFIN := Lib.hid (fun (W : World) (hq : StPost W6.drew s most v (L.set i a') (cutP (P.set i q) i (q.length / 2) q) W) => StPost.ahead HB1.out (StPost.trans H5.out H6.out (StPost.ahead (below_drew (Below.refl _ _)) hq)))
      clear HPART HPU H4 H5 H6
      go_wp2_with fail
      refine wp_only ?_
      refine wp_region_held_drew (S := fun W => W.cell? ⟨s, 0, none⟩ = some (.int .i64 most) ∧ W.cell? ⟨s, 1, none⟩ = some (.slice (some ⟨g, 0, none⟩) P.length c) ∧ W.cell? ⟨g, i, none⟩ = some (.slice (some ⟨a'.g, a'.o, none⟩) (n + 1) a'.cap)) (by kernel_rfl) ⟨dm, d2, dg⟩ (fun hHeld => ?_)
      clear dm d2 dg
      refine wpAnyH_take (i := 0) (oi := { dst := some 78, op := Op.move (Operand.tmp 0), type := 23, pos := "change.go:49", after := #[], guard := none }) (v := ?vv50) rfl (by kernel_rfl) (by kernel_rfl) (by kernel_rfl) (fun _ _ _ h => h) ?hy50 (by assumption) ?rest50
      case hy50 => (refine Or.inl ⟨by rfl, ?_⟩; intro W hSw; (try dsimp only at hSw); go_simp; (try with_reducible rfl))
      try simp only [Act.put, List.setIfInBounds_toArray, List.set_cons_zero, List.set_cons_succ]
      refine wpAnyH_take (i := 1) (oi := { dst := some 79, op := Op.nilCheck (Operand.tmp 78), type := 0, pos := "change.go:49", after := #[{ on := 0, ground := Ground.data }], guard := none }) (v := ?vv51) rfl (by kernel_rfl) (by kernel_rfl) (by kernel_rfl) (fun _ _ _ h => h) ?hy51 (by assumption) ?rest51
      case hy51 => (refine Or.inl ⟨by rfl, ?_⟩; intro W hSw; (try dsimp only at hSw); go_simp; (try with_reducible rfl))
      try simp only [Act.put, List.setIfInBounds_toArray, List.set_cons_zero, List.set_cons_succ]
      refine wpAnyH_take (i := 2) (oi := { dst := some 80, op := Op.fieldAddr 64 (Operand.tmp 79) 1, type := 0, pos := "change.go:49", after := #[{ on := 1, ground := Ground.data }], guard := none }) (v := ?vv52) rfl (by kernel_rfl) (by kernel_rfl) (by kernel_rfl) (fun _ _ _ h => h) ?hy52 (by assumption) ?rest52
      case hy52 => (refine Or.inl ⟨by rfl, ?_⟩; intro W hSw; (try dsimp only at hSw); go_simp; (try with_reducible rfl))
      try simp only [Act.put, List.setIfInBounds_toArray, List.set_cons_zero, List.set_cons_succ]
      refine wpAnyH_take (i := 3) (oi := { dst := some 81, op := Op.load 29 (Operand.tmp 80), type := 29, pos := "change.go:49", after := #[{ on := 2, ground := Ground.data }], guard := none }) (v := ?vv53) rfl (by kernel_rfl) (by kernel_rfl) (by kernel_rfl) (fun _ _ _ h => h) ?hy53 (by assumption) ?rest53
      case hy53 => (refine Or.inl ⟨by rfl, ?_⟩; intro W hSw; (try dsimp only at hSw); go_simp; (try with_reducible rfl))
      try simp only [Act.put, List.setIfInBounds_toArray, List.set_cons_zero, List.set_cons_succ]
      refine wpAnyH_take (i := 4) (oi := { dst := some 82, op := Op.move (Operand.tmp 5), type := 3, pos := "change.go:49", after := #[], guard := none }) (v := ?vv54) rfl (by kernel_rfl) (by kernel_rfl) (by kernel_rfl) (fun _ _ _ h => h) ?hy54 (by assumption) ?rest54
      case hy54 => (refine Or.inl ⟨by rfl, ?_⟩; intro W hSw; (try dsimp only at hSw); go_simp; (try with_reducible rfl))
      try simp only [Act.put, List.setIfInBounds_toArray, List.set_cons_zero, List.set_cons_succ]
      refine wpAnyH_take (i := 5) (oi := { dst := some 83, op := Op.indexAddr 29 (Operand.tmp 81) (Operand.tmp 82), type := 0, pos := "change.go:49", after := #[{ on := 3, ground := Ground.data }, { on := 4, ground := Ground.data }], guard := none }) (v := ?vv55) rfl (by kernel_rfl) (by kernel_rfl) (by kernel_rfl) (fun _ _ _ h => h) ?hy55 (by assumption) ?rest55
      case hy55 => (refine Or.inl ⟨by rfl, ?_⟩; intro W hSw; (try dsimp only at hSw); go_simp; (try with_reducible rfl))
      try simp only [Act.put, List.setIfInBounds_toArray, List.set_cons_zero, List.set_cons_succ]
      refine wpAnyH_take (i := 6) (oi := { dst := some 84, op := Op.load 40 (Operand.tmp 83), type := 40, pos := "change.go:49", after := #[{ on := 5, ground := Ground.data }], guard := none }) (v := ?vv56) rfl (by kernel_rfl) (by kernel_rfl) (by kernel_rfl) (fun _ _ _ h => h) ?hy56 (by assumption) ?rest56
      case hy56 => (refine Or.inl ⟨by rfl, ?_⟩; intro W hSw; (try dsimp only at hSw); go_simp; (try with_reducible rfl))
      try simp only [Act.put, List.setIfInBounds_toArray, List.set_cons_zero, List.set_cons_succ]
      refine wpAnyH_take (i := 7) (oi := { dst := some 85, op := Op.call { callee := Callee.builtin Builtin.len, args := #[Operand.tmp 84], argTypes := #[40] }, type := 3, pos := "change.go:49", after := #[{ on := 6, ground := Ground.data }], guard := none }) (v := ?vv57) rfl (by kernel_rfl) (by kernel_rfl) (by kernel_rfl) (fun _ _ _ h => h) ?hy57 (by assumption) ?rest57
      case hy57 => (refine Or.inl ⟨by rfl, ?_⟩; intro W hSw; (try dsimp only at hSw); go_simp; (try with_reducible rfl))
      try simp only [Act.put, List.setIfInBounds_toArray, List.set_cons_zero, List.set_cons_succ]
      refine wpAnyH_take (i := 8) (oi := { dst := some 86, op := Op.move (Operand.tmp 0), type := 23, pos := "change.go:49", after := #[], guard := none }) (v := ?vv58) rfl (by kernel_rfl) (by kernel_rfl) (by kernel_rfl) (fun _ _ _ h => h) ?hy58 (by assumption) ?rest58
      case hy58 => (refine Or.inl ⟨by rfl, ?_⟩; intro W hSw; (try dsimp only at hSw); go_simp; (try with_reducible rfl))
      try simp only [Act.put, List.setIfInBounds_toArray, List.set_cons_zero, List.set_cons_succ]
      refine wpAnyH_take (i := 9) (oi := { dst := some 87, op := Op.nilCheck (Operand.tmp 86), type := 0, pos := "change.go:49", after := #[{ on := 8, ground := Ground.data }], guard := none }) (v := ?vv59) rfl (by kernel_rfl) (by kernel_rfl) (by kernel_rfl) (fun _ _ _ h => h) ?hy59 (by assumption) ?rest59
      case hy59 => (refine Or.inl ⟨by rfl, ?_⟩; intro W hSw; (try dsimp only at hSw); go_simp; (try with_reducible rfl))
      try simp only [Act.put, List.setIfInBounds_toArray, List.set_cons_zero, List.set_cons_succ]
      refine wpAnyH_take (i := 10) (oi := { dst := some 88, op := Op.fieldAddr 64 (Operand.tmp 87) 0, type := 0, pos := "change.go:49", after := #[{ on := 9, ground := Ground.data }], guard := none }) (v := ?vv60) rfl (by kernel_rfl) (by kernel_rfl) (by kernel_rfl) (fun _ _ _ h => h) ?hy60 (by assumption) ?rest60
      case hy60 => (refine Or.inl ⟨by rfl, ?_⟩; intro W hSw; (try dsimp only at hSw); go_simp; (try with_reducible rfl))
      try simp only [Act.put, List.setIfInBounds_toArray, List.set_cons_zero, List.set_cons_succ]
      refine wpAnyH_take (i := 11) (oi := { dst := some 89, op := Op.load 3 (Operand.tmp 88), type := 3, pos := "change.go:49", after := #[{ on := 10, ground := Ground.data }], guard := none }) (v := ?vv61) rfl (by kernel_rfl) (by kernel_rfl) (by kernel_rfl) (fun _ _ _ h => h) ?hy61 (by assumption) ?rest61
      case hy61 => (refine Or.inl ⟨by rfl, ?_⟩; intro W hSw; (try dsimp only at hSw); go_simp; (try with_reducible rfl))
      try simp only [Act.put, List.setIfInBounds_toArray, List.set_cons_zero, List.set_cons_succ]
      refine wpAnyH_take (i := 12) (oi := { dst := some 90, op := Op.binOp BinOp.gtr 3 (Operand.tmp 85) (Operand.tmp 89) 3, type := 4, pos := "change.go:49", after := #[{ on := 7, ground := Ground.data }, { on := 11, ground := Ground.data }], guard := none }) (v := (.bool true)) rfl (by kernel_rfl) (by kernel_rfl) (by kernel_rfl) (fun _ _ _ h => h) ?hy62 (by assumption) ?rest62
      case hy62 => ((refine Or.inl ⟨by rfl, ?_⟩; intro W hSw; go_simp; done))
      try simp only [Act.put, List.setIfInBounds_toArray, List.set_cons_zero, List.set_cons_succ]
      refine wpAnyH_done (by kernel_rfl) ?_ _
      clear hHeld
      dsimp only [onlyN]
      go_wp2_with fail
      refine (HPC.out).mono ?_
      rintro e w7 ⟨rfl, hpost⟩
      have HF7 := Lib.hid (HFIN.out _ hpost)
      clear hpost HPC HFIN
      go_wp2_with fail
      go_ret
      exact ⟨[], .nilIface, rfl, rfl, (fun e h => by cases h), by simp, by rw [HE.out]; rfl, by rw [HE.out]; exact HF7.out⟩
    · have hov1 : ¬ (most : Int) < (n : Int) + 1 := by omega
      have HE : Hid (putP most P x = (P.set i q, 0)) := Lib.hid (by rw [HPU.out, if_neg (by rw [hQL.out]; exact hov)])
      have HFIN := Lib.hid (StPost.ahead HB1.out ⟨v, _, H4.out, H5.out, H6.out⟩)
      clear HPART HPU H4 H5 H6
      go_wp2_with fail
      refine wp_only ?_
      refine wp_region_held_drew (S := fun W => W.cell? ⟨s, 0, none⟩ = some (.int .i64 most) ∧ W.cell? ⟨s, 1, none⟩ = some (.slice (some ⟨g, 0, none⟩) P.length c) ∧ W.cell? ⟨g, i, none⟩ = some (.slice (some ⟨a'.g, a'.o, none⟩) (n + 1) a'.cap)) (by kernel_rfl) ⟨dm, d2, dg⟩ (fun hHeld => ?_)
      clear dm d2 dg
      refine wpAnyH_take (i := 0) (oi := { dst := some 78, op := Op.move (Operand.tmp 0), type := 23, pos := "change.go:49", after := #[], guard := none }) (v := ?vv63) rfl (by kernel_rfl) (by kernel_rfl) (by kernel_rfl) (fun _ _ _ h => h) ?hy63 (by assumption) ?rest63
      case hy63 => (refine Or.inl ⟨by rfl, ?_⟩; intro W hSw; (try dsimp only at hSw); go_simp; (try with_reducible rfl))
      try simp only [Act.put, List.setIfInBounds_toArray, List.set_cons_zero, List.set_cons_succ]
      refine wpAnyH_take (i := 1) (oi := { dst := some 79, op := Op.nilCheck (Operand.tmp 78), type := 0, pos := "change.go:49", after := #[{ on := 0, ground := Ground.data }], guard := none }) (v := ?vv64) rfl (by kernel_rfl) (by kernel_rfl) (by kernel_rfl) (fun _ _ _ h => h) ?hy64 (by assumption) ?rest64
      case hy64 => (refine Or.inl ⟨by rfl, ?_⟩; intro W hSw; (try dsimp only at hSw); go_simp; (try with_reducible rfl))
      try simp only [Act.put, List.setIfInBounds_toArray, List.set_cons_zero, List.set_cons_succ]
      refine wpAnyH_take (i := 2) (oi := { dst := some 80, op := Op.fieldAddr 64 (Operand.tmp 79) 1, type := 0, pos := "change.go:49", after := #[{ on := 1, ground := Ground.data }], guard := none }) (v := ?vv65) rfl (by kernel_rfl) (by kernel_rfl) (by kernel_rfl) (fun _ _ _ h => h) ?hy65 (by assumption) ?rest65
      case hy65 => (refine Or.inl ⟨by rfl, ?_⟩; intro W hSw; (try dsimp only at hSw); go_simp; (try with_reducible rfl))
      try simp only [Act.put, List.setIfInBounds_toArray, List.set_cons_zero, List.set_cons_succ]
      refine wpAnyH_take (i := 3) (oi := { dst := some 81, op := Op.load 29 (Operand.tmp 80), type := 29, pos := "change.go:49", after := #[{ on := 2, ground := Ground.data }], guard := none }) (v := ?vv66) rfl (by kernel_rfl) (by kernel_rfl) (by kernel_rfl) (fun _ _ _ h => h) ?hy66 (by assumption) ?rest66
      case hy66 => (refine Or.inl ⟨by rfl, ?_⟩; intro W hSw; (try dsimp only at hSw); go_simp; (try with_reducible rfl))
      try simp only [Act.put, List.setIfInBounds_toArray, List.set_cons_zero, List.set_cons_succ]
      refine wpAnyH_take (i := 4) (oi := { dst := some 82, op := Op.move (Operand.tmp 5), type := 3, pos := "change.go:49", after := #[], guard := none }) (v := ?vv67) rfl (by kernel_rfl) (by kernel_rfl) (by kernel_rfl) (fun _ _ _ h => h) ?hy67 (by assumption) ?rest67
      case hy67 => (refine Or.inl ⟨by rfl, ?_⟩; intro W hSw; (try dsimp only at hSw); go_simp; (try with_reducible rfl))
      try simp only [Act.put, List.setIfInBounds_toArray, List.set_cons_zero, List.set_cons_succ]
      refine wpAnyH_take (i := 5) (oi := { dst := some 83, op := Op.indexAddr 29 (Operand.tmp 81) (Operand.tmp 82), type := 0, pos := "change.go:49", after := #[{ on := 3, ground := Ground.data }, { on := 4, ground := Ground.data }], guard := none }) (v := ?vv68) rfl (by kernel_rfl) (by kernel_rfl) (by kernel_rfl) (fun _ _ _ h => h) ?hy68 (by assumption) ?rest68
      case hy68 => (refine Or.inl ⟨by rfl, ?_⟩; intro W hSw; (try dsimp only at hSw); go_simp; (try with_reducible rfl))
      try simp only [Act.put, List.setIfInBounds_toArray, List.set_cons_zero, List.set_cons_succ]
      refine wpAnyH_take (i := 6) (oi := { dst := some 84, op := Op.load 40 (Operand.tmp 83), type := 40, pos := "change.go:49", after := #[{ on := 5, ground := Ground.data }], guard := none }) (v := ?vv69) rfl (by kernel_rfl) (by kernel_rfl) (by kernel_rfl) (fun _ _ _ h => h) ?hy69 (by assumption) ?rest69
      case hy69 => (refine Or.inl ⟨by rfl, ?_⟩; intro W hSw; (try dsimp only at hSw); go_simp; (try with_reducible rfl))
      try simp only [Act.put, List.setIfInBounds_toArray, List.set_cons_zero, List.set_cons_succ]
      refine wpAnyH_take (i := 7) (oi := { dst := some 85, op := Op.call { callee := Callee.builtin Builtin.len, args := #[Operand.tmp 84], argTypes := #[40] }, type := 3, pos := "change.go:49", after := #[{ on := 6, ground := Ground.data }], guard := none }) (v := ?vv70) rfl (by kernel_rfl) (by kernel_rfl) (by kernel_rfl) (fun _ _ _ h => h) ?hy70 (by assumption) ?rest70
      case hy70 => (refine Or.inl ⟨by rfl, ?_⟩; intro W hSw; (try dsimp only at hSw); go_simp; (try with_reducible rfl))
      try simp only [Act.put, List.setIfInBounds_toArray, List.set_cons_zero, List.set_cons_succ]
      refine wpAnyH_take (i := 8) (oi := { dst := some 86, op := Op.move (Operand.tmp 0), type := 23, pos := "change.go:49", after := #[], guard := none }) (v := ?vv71) rfl (by kernel_rfl) (by kernel_rfl) (by kernel_rfl) (fun _ _ _ h => h) ?hy71 (by assumption) ?rest71
      case hy71 => (refine Or.inl ⟨by rfl, ?_⟩; intro W hSw; (try dsimp only at hSw); go_simp; (try with_reducible rfl))
      try simp only [Act.put, List.setIfInBounds_toArray, List.set_cons_zero, List.set_cons_succ]
      refine wpAnyH_take (i := 9) (oi := { dst := some 87, op := Op.nilCheck (Operand.tmp 86), type := 0, pos := "change.go:49", after := #[{ on := 8, ground := Ground.data }], guard := none }) (v := ?vv72) rfl (by kernel_rfl) (by kernel_rfl) (by kernel_rfl) (fun _ _ _ h => h) ?hy72 (by assumption) ?rest72
      case hy72 => (refine Or.inl ⟨by rfl, ?_⟩; intro W hSw; (try dsimp only at hSw); go_simp; (try with_reducible rfl))
      try simp only [Act.put, List.setIfInBounds_toArray, List.set_cons_zero, List.set_cons_succ]
      refine wpAnyH_take (i := 10) (oi := { dst := some 88, op := Op.fieldAddr 64 (Operand.tmp 87) 0, type := 0, pos := "change.go:49", after := #[{ on := 9, ground := Ground.data }], guard := none }) (v := ?vv73) rfl (by kernel_rfl) (by kernel_rfl) (by kernel_rfl) (fun _ _ _ h => h) ?hy73 (by assumption) ?rest73
      case hy73 => (refine Or.inl ⟨by rfl, ?_⟩; intro W hSw; (try dsimp only at hSw); go_simp; (try with_reducible rfl))
      try simp only [Act.put, List.setIfInBounds_toArray, List.set_cons_zero, List.set_cons_succ]
      refine wpAnyH_take (i := 11) (oi := { dst := some 89, op := Op.load 3 (Operand.tmp 88), type := 3, pos := "change.go:49", after := #[{ on := 10, ground := Ground.data }], guard := none }) (v := ?vv74) rfl (by kernel_rfl) (by kernel_rfl) (by kernel_rfl) (fun _ _ _ h => h) ?hy74 (by assumption) ?rest74
      case hy74 => (refine Or.inl ⟨by rfl, ?_⟩; intro W hSw; (try dsimp only at hSw); go_simp; (try with_reducible rfl))
      try simp only [Act.put, List.setIfInBounds_toArray, List.set_cons_zero, List.set_cons_succ]
      refine wpAnyH_take (i := 12) (oi := { dst := some 90, op := Op.binOp BinOp.gtr 3 (Operand.tmp 85) (Operand.tmp 89) 3, type := 4, pos := "change.go:49", after := #[{ on := 7, ground := Ground.data }, { on := 11, ground := Ground.data }], guard := none }) (v := (.bool false)) rfl (by kernel_rfl) (by kernel_rfl) (by kernel_rfl) (fun _ _ _ h => h) ?hy75 (by assumption) ?rest75
      case hy75 => ((refine Or.inl ⟨by rfl, ?_⟩; intro W hSw; go_simp; done))
      try simp only [Act.put, List.setIfInBounds_toArray, List.set_cons_zero, List.set_cons_succ]
      refine wpAnyH_done (by kernel_rfl) ?_ _
      clear hHeld
      dsimp only [onlyN]
      go_wp2_with fail
      go_ret
      exact ⟨[], .nilIface, rfl, rfl, (fun e h => by cases h), by simp, by rw [HE.out]; rfl, by rw [HE.out]; exact HFIN.out.after (below_drew (Below.refl _ _))⟩
end Go.Proofs.YtkkembbeejlomaaGreatDoor
