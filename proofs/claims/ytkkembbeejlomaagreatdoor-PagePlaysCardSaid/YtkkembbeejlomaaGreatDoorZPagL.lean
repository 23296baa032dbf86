/- Put: a row that is there; no more room; the first row. -/
import Derived.Test.YtkkembbeejlomaaGreatDoorZPagK
set_option linter.unusedSimpArgs false
set_option linter.unusedVariables false
set_option linter.unnecessarySimpa false
namespace Go.Proofs.YtkkembbeejlomaaGreatDoor
open Go.RowKit Go.Shelf Go.Sort Go.Lib

theorem has_at {p : List Row} {k : K} (h : hasP p k = true) : ∃ r, p[lowP p k]? = some r ∧ r.k = k := by
  unfold hasP at h
  split at h
  · rename_i r hr
    exact ⟨r, hr, by simpa using h⟩
  · cases h
theorem pgC_cell {p : List Row} {j : Nat} {r : Row} (h : p[j]? = some r) (i : Nat) : (pgC p)[j * 2 + i]? = if i < 2 then (rowV r)[i]? else (pgC p)[j * 2 + i]? := by
  by_cases hi : i < 2
  · rw [if_pos hi]
    obtain ⟨h0, h1⟩ := pgC_at h
    have : i = 0 ∨ i = 1 := by omega
    rcases this with rfl | rfl
    · exact h0
    · exact h1
  · rw [if_neg hi]
theorem pgC_idx (p : List Row) (j : Nat) : (pgC p)[j]? = (p[j / 2]?).bind (fun r => (rowV r)[j % 2]?) := by
  cases h : p[j / 2]? with
  | none =>
    have : p.length ≤ j / 2 := by simpa using h
    rw [List.getElem?_eq_none (by rw [pgC_len]; omega)]
    rfl
  | some r =>
    have h2 := pgC_cell h (j % 2)
    rw [if_pos (Nat.mod_lt _ (by omega)), show j / 2 * 2 + j % 2 = j by omega] at h2
    rw [h2]
    rfl
/-- The number of a row is another one. -/
theorem Area.poke {w : World} {g o cap at_ : Nat} {p : List Row} {r x : Row} (h : Area w 2 g o cap (pgC p)) (hr : p[at_]? = some r) (hk : r.k = x.k) : Area (w.setCell ⟨g, o + (at_ * 2 + 1), none⟩ (.int .i64 x.n)) 2 g o cap (pgC (p.set at_ x)) := by
  have hle := h.le
  rw [pgC_len] at hle
  have hi := (List.getElem?_eq_some_iff.1 hr).1
  rw [setCell_one]
  refine h.put (by simp; omega) (by rw [pgC_len, List.length_set]; exact hle) (pgC_one _) (fun j u h1 h2 hj => ?_) (fun j u h1 hj => ?_)
  · obtain rfl : j = at_ * 2 + 1 := by simp at h2; omega
    have h3 : (p.set at_ x)[at_]? = some x := List.getElem?_set_self hi
    rw [(pgC_at h3).2] at hj
    simpa using hj
  · simp only [List.length_cons, List.length_nil] at h1
    rw [pgC_idx] at hj ⊢
    by_cases hja : at_ = j / 2
    · subst hja
      rw [List.getElem?_set_self hi] at hj
      rw [hr]
      have h0 : j % 2 = 0 := by omega
      rw [h0] at hj ⊢
      show (rowV r)[0]? = some u
      rw [← hj]
      show some (strV r.k) = some (strV x.k)
      rw [hk]
    · rw [List.getElem?_set_ne hja] at hj
      exact hj
/-- A page is another one of the same length, where it lay. -/
theorem St.inner {w w1 : World} {s most i : Nat} {v : Value} {L : List Pl} {P : List (List Row)} {a : Pl} {p p' : List Row} (h : St w s most v L P) (ha : L[i]? = some a) (hp : P[i]? = some p) (hA : Area w1 2 a.g a.o a.cap (pgC p')) (hl : p'.length = p.length) (ht : TouchA a.g a.o (a.cap * 2) w w1) :
    St w1 s most v L (P.set i p') ∧ Touch (Owns s v L) w w1 := by
  have hil := (List.getElem?_eq_some_iff.1 hp).1
  have haL := List.mem_of_getElem? ha
  have hag := h.offs a haL
  have hsl := heap_lt h.head
  refine ⟨⟨(ht.block s hsl (fun e => hag.1 e.symm)).trans h.head, ?_, by rw [List.length_set]; exact h.len, fun j b q hj hq => ?_, h.offs, h.apart, h.off⟩, ht.touch.mono (fun k _ e => .inr (.inr ⟨a, haL, e.symm⟩))⟩
  · have e : pgsV L (P.set i p') = pgsV L P := by
      apply List.ext_getElem?
      intro j
      unfold pgsV
      rw [List.getElem?_zipWith, List.getElem?_zipWith]
      by_cases hij : i = j
      · subst hij
        rw [List.getElem?_set_self hil, hp, ha]
        simp only [plV, hl]
      · rw [List.getElem?_set_ne hij]
    rw [e, List.length_set]
    exact RowIs.touch h.row ht.touch (fun k hk e => hag.2 (e ▸ hk))
  · by_cases hij : i = j
    · subst hij
      rw [List.getElem?_set_self hil] at hq
      obtain rfl := Option.some.inj hq
      rw [ha] at hj
      obtain rfl := Option.some.inj hj
      exact ⟨hA, by rw [hl]; exact (h.each i a p ha hp).2⟩
    · rw [List.getElem?_set_ne hij] at hq
      exact ⟨(h.each j b q hj hq).1.far ht (off_of h.apart ha hj hij), (h.each j b q hj hq).2⟩
set_option maxRecDepth 100000 in
set_option maxHeartbeats 4000000 in
/-- A row that is there. -/
theorem put_there {w : World} {s most : Nat} {v : Value} {L : List Pl} {P : List (List Row)} {x : Row} (h : St w s most v L P) (hF : Fine most P) (hx : x.k.length ≤ 16) (ht : (findP P x.k).2.2 = true) :
    Calls Tryz.prog 43 #[.pointer (some ⟨s, 0, none⟩), .agg #[strV x.k, .int .i64 x.n]] w (PutPost w s most v L P x) := by
  have hb1 := below_new (w := w) (.cells #[.string ⟨x.k.toArray⟩, .int .i64 x.n] 42)
  have hat := alloc_at w (.cells #[.string ⟨x.k.toArray⟩, .int .i64 x.n] 42)
  have k0 : (w.alloc (.cells #[.string ⟨x.k.toArray⟩, .int .i64 x.n] 42)).cell? ⟨w.heap.size, 0, none⟩ = some (.string ⟨x.k.toArray⟩) := cell_of hat 0
  have k1 : (w.alloc (.cells #[.string ⟨x.k.toArray⟩, .int .i64 x.n] 42)).cell? ⟨w.heap.size, 1, none⟩ = some (.int .i64 x.n) := cell_of hat 1
  have hlI : ¬ (16 : Int) < (x.k.length : Int) := by omega
  have H1 := Lib.hid (h.below hb1)
  have HB := Lib.hid hb1
  have hfi := find_any (k := x.k) (h.below hb1) hF
  simp only [strV] at hfi
  have HPU : putP most P x = (P.set (findP P x.k).1 (((P[(findP P x.k).1]?).getD []).set (findP P x.k).2.1 x), 0) := by
    unfold putP
    rw [if_neg (by omega)]
    generalize (P[(findP P x.k).1]?).getD [] = p
    generalize findP P x.k = f at ht ⊢
    obtain ⟨i, at_, t⟩ := f
    simp only at ht
    subst ht
    rfl
  have HP0 : ∃ i p, P[i]? = some p ∧ findP P x.k = (i, lowP p x.k, hasP p x.k) := by
    unfold findP at ht ⊢
    split
    · rename_i p hp
      exact ⟨_, p, hp, rfl⟩
    · rename_i hp
      rw [hp] at ht
      cases ht
  obtain ⟨i, p, hp, hfp⟩ := HP0
  rw [hfp] at HPU hfi ht
  simp only [hp, Option.getD_some] at HPU ht
  rw [ht] at hfi
  obtain ⟨r, hr, hrk⟩ := has_at ht
  obtain ⟨a, g, c, ha, hv, hc1, hc2, kc, hA, hac⟩ := row_page H1.out hp
  have ks : (w.alloc (.cells #[.string ⟨x.k.toArray⟩, .int .i64 x.n] 42)).cell? ⟨s, 1, none⟩ = some v := cell_of H1.out.head 1
  rw [hv] at ks
  have hpl := (hF.page hp).2.2
  have hPl := hF.len
  have hil := (List.getElem?_eq_some_iff.1 hp).1
  have hal := (List.getElem?_eq_some_iff.1 hr).1
  have hmx := hA.max
  unfold maxLen at hc2 hmx
  generalize lowP p x.k = at_ at hr hal HPU hfi
  obtain ⟨W1, hW1⟩ : ∃ W1, W1 = w.alloc (.cells #[.string ⟨x.k.toArray⟩, .int .i64 x.n] 42) := ⟨_, rfl⟩
  rw [← hW1] at hfi H1 HB k0 k1 ks kc hA
  have HFI := Lib.hid hfi
  have HPU := Lib.hid HPU
  have HC : Hid (∀ W, Below W1.heap.size W1 W → W.cell? ⟨w.heap.size, 1, none⟩ = some (.int .i64 x.n) ∧ W.cell? ⟨s, 1, none⟩ = some (.slice (some ⟨g, 0, none⟩) P.length c) ∧ W.cell? ⟨g, i, none⟩ = some (.slice (some ⟨a.g, a.o, none⟩) p.length a.cap)) := Lib.hid (fun W hW => ⟨(hW.cell (p := ⟨w.heap.size, 1, none⟩) (World.block_lt_of_cell? _ _ k1)).trans k1, (hW.cell (p := ⟨s, 1, none⟩) (World.block_lt_of_cell? _ _ ks)).trans ks, (hW.cell (p := ⟨g, i, none⟩) (World.block_lt_of_cell? _ _ kc)).trans kc⟩)
  have HD : Hid (∀ W, Below W1.heap.size W1 W → (W.cell? ⟨a.g, a.o + (at_ * 2 + 1), none⟩).isSome = true ∧ W.frozen? ⟨a.g, a.o + (at_ * 2 + 1), none⟩ = false ∧ StPost w s most v L (P.set i (p.set at_ x)) (W.setCell ⟨a.g, a.o + (at_ * 2 + 1), none⟩ (.int .i64 x.n))) := Lib.hid (fun W hW => by
    have hAW := hA.below hW
    obtain ⟨q1, q2⟩ := hAW.there (at_ * 2 + 1) (by omega)
    have hT : TouchA a.g a.o (a.cap * 2) W (W.setCell ⟨a.g, a.o + (at_ * 2 + 1), none⟩ (.int .i64 x.n)) := TouchA.setCells _ _ _ _ _ [.int .i64 x.n] (by omega) (by simp; omega)
    obtain ⟨h3, h4⟩ := (H1.out.below hW).inner ha hp (hAW.poke hr hrk) (by rw [List.length_set]) hT
    exact ⟨q1, q2, .ahead (HB.out.trans (hW.mono HB.out.size)) ⟨v, L, h3, h4, fun k hk => .inl hk⟩⟩)
  have hag := h.offs a (List.mem_of_getElem? ha)
  have hal2 := h.owns_lt a.g (.inr (.inr ⟨a, List.mem_of_getElem? ha, rfl⟩))
  have HK : Hid (∀ W, Below W1.heap.size W1 W → (W.setCell ⟨a.g, a.o + (at_ * 2 + 1), none⟩ (.int .i64 x.n)).cell? ⟨w.heap.size, 1, none⟩ = some (.int .i64 x.n) ∧ (W.setCell ⟨a.g, a.o + (at_ * 2 + 1), none⟩ (.int .i64 x.n)).cell? ⟨s, 1, none⟩ = some (.slice (some ⟨g, 0, none⟩) P.length c) ∧ (W.setCell ⟨a.g, a.o + (at_ * 2 + 1), none⟩ (.int .i64 x.n)).cell? ⟨g, i, none⟩ = some (.slice (some ⟨a.g, a.o, none⟩) p.length a.cap)) := Lib.hid (fun W hW => by
    have hgg : a.g ≠ g := fun e => hag.2 (by rw [hv, e]; rfl)
    rw [World.cell?_setCell_far _ _ _ _ (show a.g ≠ w.heap.size by omega), World.cell?_setCell_far _ _ _ _ (show a.g ≠ s from hag.1), World.cell?_setCell_far _ _ _ _ (show a.g ≠ g from hgg)]
    exact HC.out W hW)
  have hiI : (i : Int) < (P.length : Int) := by omega
  have hlP : (P.length : Int) ≤ 256 := by omega
  have haI : (at_ : Int) < (p.length : Int) := by omega
  have hlp : (p.length : Int) ≤ 64 := by omega
  clear hfi k1 ks kc hA hp ha hr hb1 hat h hv hag hal2
  unfold strV
  subst hW1
  go_enter Tryz.func43, Tryz.ntmps43
  go_wp2_with fail
  refine (HFI.out).mono ?_
  rintro e w2 ⟨rfl, hb2⟩
  have HB2 := Lib.hid hb2
  clear hb2 HFI k0
  go_wp2_with fail
  have HDD := Lib.hid (HD.out _ (below_drew HB2.out))
  clear HD
  refine wp_only ?_
  refine wp_region_held_drew (S := fun W => W.cell? ⟨w.heap.size, 1, none⟩ = some (.int .i64 x.n) ∧ W.cell? ⟨s, 1, none⟩ = some (.slice (some ⟨g, 0, none⟩) P.length c) ∧ W.cell? ⟨g, i, none⟩ = some (.slice (some ⟨a.g, a.o, none⟩) p.length a.cap)) (by kernel_rfl) (HC.out _ (below_drew HB2.out)) (fun hHeld => ?_)
  refine wpAnyH_take (i := 0) (oi := { dst := some 27, op := Op.move (Operand.tmp 0), type := 23, pos := "change.go:40", after := #[], guard := none }) (v := ?vv1) rfl (by kernel_rfl) (by kernel_rfl) (by kernel_rfl) (fun _ _ _ h => h) ?hy1 (by assumption) ?rest1
  case hy1 => (refine Or.inl ⟨by rfl, ?_⟩; intro W hSw; (try dsimp only at hSw); go_simp; (try with_reducible rfl))
  try simp only [Act.put, List.setIfInBounds_toArray, List.set_cons_zero, List.set_cons_succ]
  refine wpAnyH_take (i := 1) (oi := { dst := some 28, op := Op.nilCheck (Operand.tmp 27), type := 0, pos := "change.go:40", after := #[{ on := 0, ground := Ground.data }], guard := none }) (v := ?vv2) rfl (by kernel_rfl) (by kernel_rfl) (by kernel_rfl) (fun _ _ _ h => h) ?hy2 (by assumption) ?rest2
  case hy2 => (refine Or.inl ⟨by rfl, ?_⟩; intro W hSw; (try dsimp only at hSw); go_simp; (try with_reducible rfl))
  try simp only [Act.put, List.setIfInBounds_toArray, List.set_cons_zero, List.set_cons_succ]
  refine wpAnyH_take (i := 2) (oi := { dst := some 29, op := Op.fieldAddr 64 (Operand.tmp 28) 1, type := 0, pos := "change.go:40", after := #[{ on := 1, ground := Ground.data }], guard := none }) (v := ?vv3) rfl (by kernel_rfl) (by kernel_rfl) (by kernel_rfl) (fun _ _ _ h => h) ?hy3 (by assumption) ?rest3
  case hy3 => (refine Or.inl ⟨by rfl, ?_⟩; intro W hSw; (try dsimp only at hSw); go_simp; (try with_reducible rfl))
  try simp only [Act.put, List.setIfInBounds_toArray, List.set_cons_zero, List.set_cons_succ]
  refine wpAnyH_take (i := 3) (oi := { dst := some 30, op := Op.load 29 (Operand.tmp 29), type := 29, pos := "change.go:40", after := #[{ on := 2, ground := Ground.data }], guard := none }) (v := ?vv4) rfl (by kernel_rfl) (by kernel_rfl) (by kernel_rfl) (fun _ _ _ h => h) ?hy4 (by assumption) ?rest4
  case hy4 => (refine Or.inl ⟨by rfl, ?_⟩; intro W hSw; (try dsimp only at hSw); go_simp; (try with_reducible rfl))
  try simp only [Act.put, List.setIfInBounds_toArray, List.set_cons_zero, List.set_cons_succ]
  refine wpAnyH_take (i := 4) (oi := { dst := some 31, op := Op.move (Operand.tmp 5), type := 3, pos := "change.go:40", after := #[], guard := none }) (v := ?vv5) rfl (by kernel_rfl) (by kernel_rfl) (by kernel_rfl) (fun _ _ _ h => h) ?hy5 (by assumption) ?rest5
  case hy5 => (refine Or.inl ⟨by rfl, ?_⟩; intro W hSw; (try dsimp only at hSw); go_simp; (try with_reducible rfl))
  try simp only [Act.put, List.setIfInBounds_toArray, List.set_cons_zero, List.set_cons_succ]
  refine wpAnyH_take (i := 5) (oi := { dst := some 32, op := Op.indexAddr 29 (Operand.tmp 30) (Operand.tmp 31), type := 0, pos := "change.go:40", after := #[{ on := 3, ground := Ground.data }, { on := 4, ground := Ground.data }], guard := none }) (v := ?vv6) rfl (by kernel_rfl) (by kernel_rfl) (by kernel_rfl) (fun _ _ _ h => h) ?hy6 (by assumption) ?rest6
  case hy6 => (refine Or.inl ⟨by rfl, ?_⟩; intro W hSw; (try dsimp only at hSw); go_simp; (try with_reducible rfl))
  try simp only [Act.put, List.setIfInBounds_toArray, List.set_cons_zero, List.set_cons_succ]
  refine wpAnyH_take (i := 6) (oi := { dst := some 33, op := Op.load 40 (Operand.tmp 32), type := 40, pos := "change.go:40", after := #[{ on := 5, ground := Ground.data }], guard := none }) (v := ?vv7) rfl (by kernel_rfl) (by kernel_rfl) (by kernel_rfl) (fun _ _ _ h => h) ?hy7 (by assumption) ?rest7
  case hy7 => (refine Or.inl ⟨by rfl, ?_⟩; intro W hSw; (try dsimp only at hSw); go_simp; (try with_reducible rfl))
  try simp only [Act.put, List.setIfInBounds_toArray, List.set_cons_zero, List.set_cons_succ]
  refine wpAnyH_take (i := 7) (oi := { dst := some 34, op := Op.move (Operand.tmp 6), type := 3, pos := "change.go:40", after := #[], guard := none }) (v := ?vv8) rfl (by kernel_rfl) (by kernel_rfl) (by kernel_rfl) (fun _ _ _ h => h) ?hy8 (by assumption) ?rest8
  case hy8 => (refine Or.inl ⟨by rfl, ?_⟩; intro W hSw; (try dsimp only at hSw); go_simp; (try with_reducible rfl))
  try simp only [Act.put, List.setIfInBounds_toArray, List.set_cons_zero, List.set_cons_succ]
  refine wpAnyH_take (i := 8) (oi := { dst := some 35, op := Op.fieldAddr 42 (Operand.tmp 3) 1, type := 0, pos := "change.go:40", after := #[], guard := none }) (v := ?vv9) rfl (by kernel_rfl) (by kernel_rfl) (by kernel_rfl) (fun _ _ _ h => h) ?hy9 (by assumption) ?rest9
  case hy9 => (refine Or.inl ⟨by rfl, ?_⟩; intro W hSw; (try dsimp only at hSw); go_simp; (try with_reducible rfl))
  try simp only [Act.put, List.setIfInBounds_toArray, List.set_cons_zero, List.set_cons_succ]
  refine wpAnyH_take (i := 9) (oi := { dst := some 36, op := Op.load 2 (Operand.tmp 35), type := 2, pos := "change.go:40", after := #[{ on := 8, ground := Ground.data }], guard := none }) (v := ?vv10) rfl (by kernel_rfl) (by kernel_rfl) (by kernel_rfl) (fun _ _ _ h => h) ?hy10 (by assumption) ?rest10
  case hy10 => (refine Or.inl ⟨by rfl, ?_⟩; intro W hSw; (try dsimp only at hSw); go_simp; (try with_reducible rfl))
  try simp only [Act.put, List.setIfInBounds_toArray, List.set_cons_zero, List.set_cons_succ]
  refine wpAnyH_take (i := 10) (oi := { dst := some 37, op := Op.indexAddr 40 (Operand.tmp 33) (Operand.tmp 34), type := 0, pos := "change.go:40", after := #[{ on := 6, ground := Ground.data }, { on := 7, ground := Ground.data }, { on := 0, ground := Ground.phase }, { on := 1, ground := Ground.phase }, { on := 2, ground := Ground.phase }, { on := 3, ground := Ground.phase }, { on := 4, ground := Ground.phase }, { on := 5, ground := Ground.phase }, { on := 6, ground := Ground.phase }, { on := 7, ground := Ground.phase }, { on := 8, ground := Ground.phase }, { on := 9, ground := Ground.phase }], guard := none }) (v := ?vv11) rfl (by kernel_rfl) (by kernel_rfl) (by kernel_rfl) (fun _ _ _ h => h) ?hy11 (by assumption) ?rest11
  case hy11 => (refine Or.inl ⟨by rfl, ?_⟩; intro W hSw; (try dsimp only at hSw); go_simp; (try with_reducible rfl))
  try simp only [Act.put, List.setIfInBounds_toArray, List.set_cons_zero, List.set_cons_succ]
  refine wpAnyH_take (i := 11) (oi := { dst := some 38, op := Op.fieldAddr 42 (Operand.tmp 37) 1, type := 0, pos := "change.go:40", after := #[{ on := 10, ground := Ground.data }, { on := 0, ground := Ground.phase }, { on := 1, ground := Ground.phase }, { on := 2, ground := Ground.phase }, { on := 3, ground := Ground.phase }, { on := 4, ground := Ground.phase }, { on := 5, ground := Ground.phase }, { on := 6, ground := Ground.phase }, { on := 7, ground := Ground.phase }, { on := 8, ground := Ground.phase }, { on := 9, ground := Ground.phase }], guard := none }) (v := ?vv12) rfl (by kernel_rfl) (by kernel_rfl) (by kernel_rfl) (fun _ _ _ h => h) ?hy12 (by assumption) ?rest12
  case hy12 => (refine Or.inl ⟨by rfl, ?_⟩; intro W hSw; (try dsimp only at hSw); go_simp; (try with_reducible rfl))
  try simp only [Act.put, List.setIfInBounds_toArray, List.set_cons_zero, List.set_cons_succ]
  refine wpAnyH_ready (rs := [12]) (by kernel_rfl) (by simp) ?_
  obtain ⟨kt1, kt2, hfin⟩ := HDD.out
  have HFIN := Lib.hid hfin
  clear hfin HDD
  obtain ⟨xx, kt1⟩ := Option.isSome_iff_exists.1 kt1
  rw [← Nat.add_assoc] at kt1 kt2 HFIN HK
  refine AllReadyH.cons (o := { dst := none, op := Op.store 2 (Operand.tmp 38) (Operand.tmp 36), type := 0, pos := "change.go:40", after := #[{ on := 11, ground := Ground.data }, { on := 9, ground := Ground.data }, { on := 0, ground := Ground.phase }, { on := 1, ground := Ground.phase }, { on := 2, ground := Ground.phase }, { on := 3, ground := Ground.phase }, { on := 4, ground := Ground.phase }, { on := 5, ground := Ground.phase }, { on := 6, ground := Ground.phase }, { on := 7, ground := Ground.phase }, { on := 8, ground := Ground.phase }, { on := 9, ground := Ground.phase }], guard := none }) rfl (fun K hK => ?step13) ?more13
  case more13 => exact AllReadyH.nil
  (go_simp)
  refine hK.out _ _ ?hS13 (fun hHeld => ?rr13)
  case hS13 => (exact HK.out _ HB2.out)
  clear hK K
  try simp only [Act.put, List.setIfInBounds_toArray, List.set_cons_zero, List.set_cons_succ]
  refine wpAnyH_done (by kernel_rfl) ?_ _
  clear hHeld kt1 kt2
  dsimp only [onlyN]
  go_wp2_with fail
  go_ret
  exact ⟨[], .nilIface, rfl, rfl, (fun e h => by cases h), by simp, by rw [HPU.out]; rfl, by rw [HPU.out]; exact HFIN.out⟩
end Go.Proofs.YtkkembbeejlomaaGreatDoor
