/- A page is parted. -/
import Derived.Test.YtkkembbeejlomaaGreatDoorZPagH
set_option linter.unusedSimpArgs false
set_option linter.unusedVariables false
set_option linter.unnecessarySimpa false
namespace Go.Proofs.YtkkembbeejlomaaGreatDoor
open Go.RowKit Go.Shelf Go.Sort Go.Lib

/-- One page more, that lies in the room of one that is there. -/
theorem St.inserted {W W1 W2 : World} {s most g c j : Nat} {L : List Pl} {P : List (List Row)} {a : Pl} {q : List Row} {e : Ending} (h : St W s most (.slice (some ⟨g, 0, none⟩) P.length c) L P) (hb : Below W.heap.size W W1) (hi : InsPost W1 1 g 0 c (P.length + 1) (insL 1 j (pgsV L P) [plV a q]) e W2)
    (hj : j ≤ P.length) (hA : Area W 2 a.g a.o a.cap (pgC q)) (hc : q.length ≤ a.cap) (hg : ∃ b ∈ L, a.g = b.g) (ho : ∀ b ∈ L, Off b.g b.o (b.cap * 2) a.g a.o (a.cap * 2)) :
    ∃ v', e = .returned v' ∧ St (W2.setCell ⟨s, 1, none⟩ v') s most v' (insAt L j a) (insAt P j q) ∧ Touch (Owns s (.slice (some ⟨g, 0, none⟩) P.length c) L) W (W2.setCell ⟨s, 1, none⟩ v') ∧ (∀ k, Owns s v' (insAt L j a) k → Owns s (.slice (some ⟨g, 0, none⟩) P.length c) L k ∨ W.heap.size ≤ k) ∧ (W2.cell? ⟨s, 1, none⟩).isSome = true ∧ W2.frozen? ⟨s, 1, none⟩ = false ∧ ∃ A m d, v' = .slice A m d := by
  obtain ⟨g', o', c', rfl, hn, hA', hw⟩ := hi
  have hT : Touch (fun k => (Value.slice (some ⟨g, 0, none⟩) P.length c).ownBlock = some k) W W2 := by
    refine Touch.ahead hb ?_
    rcases hw with ⟨rfl, rfl, rfl, ht⟩ | ⟨rfl, rfl, hb2⟩
    · exact ht.touch.mono (fun k _ e => by rw [e]; rfl)
    · exact .of_below hb2
  have ho' : o' = 0 := by
    rcases hw with ⟨_, h, _⟩ | ⟨_, h, _⟩
    · exact h
    · exact h
  subst ho'
  have hlen : (insAt P j q).length = P.length + 1 := insAt_len hj
  have hv' : ∀ k, (Value.slice (some ⟨g', 0, none⟩) (P.length + 1) c').ownBlock = some k → (Value.slice (some ⟨g, 0, none⟩) P.length c).ownBlock = some k ∨ W.heap.size ≤ k := fun k e => by
    obtain rfl : g' = k := Option.some.inj e
    rcases hw with ⟨rfl, _⟩ | ⟨rfl, _⟩
    · exact .inl rfl
    · exact .inr hb.size
  have hrow : RowIs W2 1 (.slice (some ⟨g', 0, none⟩) (P.length + 1) c') (insAt P j q).length (pgsV (insAt L j a) (insAt P j q)) := by
    rw [hlen, pgsV_ins h.len]
    exact hA'.row (insL_len (by rw [pgsV_len h.len]; omega) rfl hj) hn
  have hog : ∀ x ∈ insAt L j a, ∃ b ∈ L, x.g = b.g := fun x hx => by
    rcases insAt_mem hx with rfl | hx
    · exact hg
    · exact ⟨x, hx, rfl⟩
  obtain ⟨h1, h2⟩ := h.pages hT hrow hv' (by rw [hlen, insAt_len (by rw [h.len]; exact hj), h.len]) (zip_at.2 (fun x hx => by
    rw [zip_insAt L P j a q h.len] at hx
    rcases insAt_mem hx with rfl | hx
    · exact ⟨hA, hc⟩
    · exact zip_at.1 h.each x hx)) hog (insAt_pair h.apart ho (fun b hb => (ho b hb).symm))
  have hsl := heap_lt h.head
  have hh := (hT.block s hsl h.off).trans h.head
  refine ⟨_, rfl, h1, h2, fun k hk => ?_, by rw [cell_of hh 1]; rfl, free0 hh 1, _, _, _, rfl⟩
  rcases hk with rfl | hk | ⟨x, hx, rfl⟩
  · exact .inl (.inl rfl)
  · exact (hv' k hk).imp (fun e => .inr (.inl e)) id
  · obtain ⟨b, hb, e⟩ := hog x hx
    exact .inl (.inr (.inr ⟨b, hb, e.symm⟩))
/-- Page i in two. -/
def cutP (P : List (List Row)) (i h : Nat) (p : List Row) : List (List Row) := insAt (P.set i (p.take h)) (i + 1) (p.drop h)
set_option maxRecDepth 100000 in
set_option maxHeartbeats 4000000 in
theorem part_any {w : World} {s most i : Nat} {v : Value} {L : List Pl} {P : List (List Row)} {p : List Row} (h : St w s most v L P) (hp : P[i]? = some p) (h2 : 2 ≤ p.length) (hl : P.length ≤ 1000) (hpl : p.length ≤ 1000) :
    Calls Tryz.prog 67 #[.pointer (some ⟨s, 0, none⟩), .int .i64 i] w fun e w' => e = .returned (.tuple #[]) ∧ StPost w s most v L (cutP P i (p.length / 2) p) w' := by
  obtain ⟨a, g, c, ha, hv, hc1, hc2, kc, hA, hac⟩ := row_page h hp
  have ks : w.cell? ⟨s, 1, none⟩ = some v := cell_of h.head 1
  rw [hv] at ks
  have hil := (List.getElem?_eq_some_iff.1 hp).1
  have hmx := hA.max
  unfold maxLen at hmx hc2
  obtain ⟨n, hn⟩ : ∃ n, p.length = n := ⟨_, rfl⟩
  obtain ⟨f, hf⟩ : ∃ f, n / 2 = f := ⟨_, rfl⟩
  have hf1 : 1 ≤ f := by omega
  have hf2 : f < n := by omega
  rw [hn, hf]
  rw [hn] at kc hac h2 hpl
  have hfI : (n : Int).tdiv 2 = (f : Int) := by
    rw [Int.tdiv_eq_ediv_of_nonneg (by omega)]
    omega
  have hwf : IntKind.i64.wrap (f : Int) = (f : Int) := IntWalk.i64_in _ (by omega)
  have hiI : (i : Int) < (P.length : Int) := by omega
  have hlI : (P.length : Int) ≤ 1000 := by omega
  have hnI : (n : Int) ≤ 1000 := by omega
  have hfn : (f : Int) < (n : Int) := by omega
  have hnc : (n : Int) ≤ (a.cap : Int) := by omega
  have hvg : v.ownBlock = some g := by rw [hv]; rfl
  have hgs : g ≠ s := fun e => h.off (e ▸ hvg)
  have hta : (p.take f).length = f := by rw [List.length_take]; omega
  have hfc : f * 2 ≤ a.cap * 2 := by omega
  have hA1 : Area w.drew 2 a.g a.o f (pgC (p.take f)) := by
    have := (hA.keep (w' := w.drew) (Nat.le_refl _) rfl).front (k := f) (n := (n - f) * 2) (by omega) (by rw [pgC_len]; omega)
    rw [pgC_take] at this
    exact this
  have hA2 : Area w.drew 2 a.g (a.o + f * 2) (a.cap - f) (pgC (p.drop f)) := by
    have := (hA.keep (w' := w.drew) (Nat.le_refl _) rfl).back (k := f) (by omega)
    rw [pgC_drop] at this
    exact this
  obtain ⟨hU, hUT⟩ := h.upd (w1 := w.drew) (a' := ⟨a.g, a.o, f⟩) (p' := p.take f) hv ha hp hA1 (by show (p.take f).length ≤ f; omega) (.inl ⟨⟨rfl, Nat.le_refl _, by show a.o + f * 2 ≤ a.o + a.cap * 2; omega⟩, (TouchA.refl _ _ _ w).drew⟩)
  have hpv : plV ⟨a.g, a.o, f⟩ (p.take f) = .slice (some ⟨a.g, a.o, none⟩) f f := by unfold plV; rw [hta]
  rw [hpv] at hU hUT
  have hrow := h.row
  rw [hv] at hrow
  obtain ⟨hPA, _, _⟩ := hrow.area (pgsV_one L P)
  obtain ⟨kt1, kt2⟩ := hPA.there i (by omega)
  rw [Nat.zero_add] at kt1 kt2
  have KT : Hid ((w.drew.cell? ⟨g, i, none⟩).isSome = true ∧ w.drew.frozen? ⟨g, i, none⟩ = false) := Lib.hid ⟨kt1, kt2⟩
  have KS : Hid (∀ W, Below w.heap.size w W → W.cell? ⟨s, 1, none⟩ = some (.slice (some ⟨g, 0, none⟩) P.length c)) := Lib.hid (fun W hW => (hW.cell (p := ⟨s, 1, none⟩) (World.block_lt_of_cell? _ _ ks)).trans ks)
  have KS2 : Hid ((w.drew.setCell ⟨g, i, none⟩ (.slice (some ⟨a.g, a.o, none⟩) f f)).cell? ⟨s, 1, none⟩ = some (.slice (some ⟨g, 0, none⟩) P.length c)) := Lib.hid (by rw [World.cell?_setCell_other _ _ _ _ (by intro e; injection e with e _; exact hgs e)]; exact ks)
  have HU := Lib.hid (And.intro hU hUT)
  have HA2 := Lib.hid hA2
  have HH := Lib.hid h
  have HA := Lib.hid ha
  have HP := Lib.hid hp
  have HV := Lib.hid hv
  have HGS := Lib.hid hgs
  clear hU hUT hA1 hA2 hPA hrow h ha hp hA hpv hta hfc hv hvg kt1 kt2
  go_enter Tryz.func67, Tryz.ntmps67
  go_wp2_with fail
  refine wp_only ?_
  refine wp_region_held_drew (S := fun W => W.cell? ⟨s, 1, none⟩ = some (.slice (some ⟨g, 0, none⟩) P.length c)) (by kernel_rfl) (KS.out _ (below_drew (Below.refl _ _))) (fun hHeld => ?_)
  clear ks kc
  refine wpAnyH_take (i := 0) (oi := { dst := some 16, op := Op.move (Operand.tmp 0), type := 23, pos := "change.go:59", after := #[], guard := none }) (v := ?vv1) rfl (by kernel_rfl) (by kernel_rfl) (by kernel_rfl) (fun _ _ _ h => h) ?hy1 (by assumption) ?rest1
  case hy1 => (refine Or.inl ⟨by rfl, ?_⟩; intro W hSw; (try dsimp only at hSw); go_simp; (try with_reducible rfl))
  try simp only [Act.put, List.setIfInBounds_toArray, List.set_cons_zero, List.set_cons_succ]
  refine wpAnyH_take (i := 1) (oi := { dst := some 17, op := Op.nilCheck (Operand.tmp 16), type := 0, pos := "change.go:59", after := #[{ on := 0, ground := Ground.data }], guard := none }) (v := ?vv2) rfl (by kernel_rfl) (by kernel_rfl) (by kernel_rfl) (fun _ _ _ h => h) ?hy2 (by assumption) ?rest2
  case hy2 => (refine Or.inl ⟨by rfl, ?_⟩; intro W hSw; (try dsimp only at hSw); go_simp; (try with_reducible rfl))
  try simp only [Act.put, List.setIfInBounds_toArray, List.set_cons_zero, List.set_cons_succ]
  refine wpAnyH_take (i := 2) (oi := { dst := some 18, op := Op.fieldAddr 64 (Operand.tmp 17) 1, type := 0, pos := "change.go:59", after := #[{ on := 1, ground := Ground.data }], guard := none }) (v := ?vv3) rfl (by kernel_rfl) (by kernel_rfl) (by kernel_rfl) (fun _ _ _ h => h) ?hy3 (by assumption) ?rest3
  case hy3 => (refine Or.inl ⟨by rfl, ?_⟩; intro W hSw; (try dsimp only at hSw); go_simp; (try with_reducible rfl))
  try simp only [Act.put, List.setIfInBounds_toArray, List.set_cons_zero, List.set_cons_succ]
  refine wpAnyH_take (i := 3) (oi := { dst := some 19, op := Op.load 29 (Operand.tmp 18), type := 29, pos := "change.go:59", after := #[{ on := 2, ground := Ground.data }], guard := none }) (v := ?vv4) rfl (by kernel_rfl) (by kernel_rfl) (by kernel_rfl) (fun _ _ _ h => h) ?hy4 (by assumption) ?rest4
  case hy4 => (refine Or.inl ⟨by rfl, ?_⟩; intro W hSw; (try dsimp only at hSw); go_simp; (try with_reducible rfl))
  try simp only [Act.put, List.setIfInBounds_toArray, List.set_cons_zero, List.set_cons_succ]
  refine wpAnyH_take (i := 4) (oi := { dst := some 20, op := Op.move (Operand.tmp 1), type := 3, pos := "change.go:59", after := #[], guard := none }) (v := ?vv5) rfl (by kernel_rfl) (by kernel_rfl) (by kernel_rfl) (fun _ _ _ h => h) ?hy5 (by assumption) ?rest5
  case hy5 => (refine Or.inl ⟨by rfl, ?_⟩; intro W hSw; (try dsimp only at hSw); go_simp; (try with_reducible rfl))
  try simp only [Act.put, List.setIfInBounds_toArray, List.set_cons_zero, List.set_cons_succ]
  refine wpAnyH_take (i := 5) (oi := { dst := some 21, op := Op.move (Operand.tmp 4), type := 40, pos := "change.go:59", after := #[], guard := none }) (v := ?vv6) rfl (by kernel_rfl) (by kernel_rfl) (by kernel_rfl) (fun _ _ _ h => h) ?hy6 (by assumption) ?rest6
  case hy6 => (refine Or.inl ⟨by rfl, ?_⟩; intro W hSw; (try dsimp only at hSw); go_simp; (try with_reducible rfl))
  try simp only [Act.put, List.setIfInBounds_toArray, List.set_cons_zero, List.set_cons_succ]
  refine wpAnyH_take (i := 6) (oi := { dst := some 22, op := Op.move (Operand.tmp 5), type := 3, pos := "change.go:59", after := #[], guard := none }) (v := ?vv7) rfl (by kernel_rfl) (by kernel_rfl) (by kernel_rfl) (fun _ _ _ h => h) ?hy7 (by assumption) ?rest7
  case hy7 => (refine Or.inl ⟨by rfl, ?_⟩; intro W hSw; (try dsimp only at hSw); go_simp; (try with_reducible rfl))
  try simp only [Act.put, List.setIfInBounds_toArray, List.set_cons_zero, List.set_cons_succ]
  refine wpAnyH_take (i := 7) (oi := { dst := some 23, op := Op.move (Operand.tmp 5), type := 3, pos := "change.go:59", after := #[], guard := none }) (v := ?vv8) rfl (by kernel_rfl) (by kernel_rfl) (by kernel_rfl) (fun _ _ _ h => h) ?hy8 (by assumption) ?rest8
  case hy8 => (refine Or.inl ⟨by rfl, ?_⟩; intro W hSw; (try dsimp only at hSw); go_simp; (try with_reducible rfl))
  try simp only [Act.put, List.setIfInBounds_toArray, List.set_cons_zero, List.set_cons_succ]
  refine wpAnyH_take (i := 8) (oi := { dst := some 24, op := Op.slice 40 (Operand.tmp 21) none (some (Operand.tmp 22)) (some (Operand.tmp 23)), type := 40, pos := "change.go:59", after := #[{ on := 5, ground := Ground.data }, { on := 6, ground := Ground.data }, { on := 7, ground := Ground.data }], guard := none }) (v := (.slice (some ⟨a.g, a.o, none⟩) f f)) rfl (by kernel_rfl) (by kernel_rfl) (by kernel_rfl) (fun _ _ _ h => h) ?hy9 (by assumption) ?rest9
  case hy9 => ((refine Or.inl ⟨by rfl, ?_⟩; intro W hSw; go_simp; intro h; omega))
  try simp only [Act.put, List.setIfInBounds_toArray, List.set_cons_zero, List.set_cons_succ]
  refine wpAnyH_take (i := 9) (oi := { dst := some 25, op := Op.indexAddr 29 (Operand.tmp 19) (Operand.tmp 20), type := 0, pos := "change.go:59", after := #[{ on := 3, ground := Ground.data }, { on := 4, ground := Ground.data }, { on := 0, ground := Ground.phase }, { on := 1, ground := Ground.phase }, { on := 2, ground := Ground.phase }, { on := 3, ground := Ground.phase }, { on := 4, ground := Ground.phase }, { on := 5, ground := Ground.phase }, { on := 6, ground := Ground.phase }, { on := 7, ground := Ground.phase }, { on := 8, ground := Ground.phase }], guard := none }) (v := ?vv10) rfl (by kernel_rfl) (by kernel_rfl) (by kernel_rfl) (fun _ _ _ h => h) ?hy10 (by assumption) ?rest10
  case hy10 => (refine Or.inl ⟨by rfl, ?_⟩; intro W hSw; (try dsimp only at hSw); go_simp; (try with_reducible rfl))
  try simp only [Act.put, List.setIfInBounds_toArray, List.set_cons_zero, List.set_cons_succ]
  refine wpAnyH_ready (rs := [10]) (by kernel_rfl) (by simp) ?_
  obtain ⟨kt1, kt2⟩ := KT.out
  obtain ⟨xx, kt1⟩ := Option.isSome_iff_exists.1 kt1
  refine AllReadyH.cons (o := { dst := none, op := Op.store 40 (Operand.tmp 25) (Operand.tmp 24), type := 0, pos := "change.go:59", after := #[{ on := 9, ground := Ground.data }, { on := 8, ground := Ground.data }, { on := 0, ground := Ground.phase }, { on := 1, ground := Ground.phase }, { on := 2, ground := Ground.phase }, { on := 3, ground := Ground.phase }, { on := 4, ground := Ground.phase }, { on := 5, ground := Ground.phase }, { on := 6, ground := Ground.phase }, { on := 7, ground := Ground.phase }, { on := 8, ground := Ground.phase }], guard := none }) rfl (fun K hK => ?step11) ?more11
  case more11 => exact AllReadyH.nil
  (go_simp)
  refine hK.out _ _ ?hS11 (fun hHeld => ?rr11)
  case hS11 => (exact KS2.out)
  clear hK K
  try simp only [Act.put, List.setIfInBounds_toArray, List.set_cons_zero, List.set_cons_succ]
  refine wpAnyH_done (by kernel_rfl) ?_ _
  clear hHeld
  dsimp only [onlyN]
  have ks2 := KS2.out
  have hu := HU.out.1
  have hut := HU.out.2
  have hv := HV.out
  have hid : i ≠ P.length ∧ i + 1 ≤ P.length := ⟨by omega, by omega⟩
  obtain ⟨L1, hL1⟩ : ∃ L1, L1 = L.set i ⟨a.g, a.o, f⟩ := ⟨_, rfl⟩
  obtain ⟨P1, hP1⟩ : ∃ P1, P1 = P.set i (p.take f) := ⟨_, rfl⟩
  have hPl : P1.length = P.length := by rw [hP1, List.length_set]
  obtain ⟨W3, hW3⟩ : ∃ W3, W3 = w.drew.setCell ⟨g, i, none⟩ (.slice (some ⟨a.g, a.o, none⟩) f f) := ⟨_, rfl⟩
  have hLL := HH.out.len
  have hA2 : Area W3 2 a.g (a.o + f * 2) (a.cap - f) (pgC (p.drop f)) := by
    have hvg : v.ownBlock = some g := by rw [hv]; rfl
    have := (HH.out.offs a (List.mem_of_getElem? HA.out)).2
    rw [hW3]
    exact HA2.out.touch (S := fun k => k = g) (Touch.setCell (S := fun k => k = g) (Touch.refl _ _) ⟨g, i, none⟩ (fun _ => rfl) _) (fun e => this (e ▸ hvg))
  rw [← hL1, ← hP1, ← hW3, hv] at hu
  rw [← hW3] at hut ks2
  have hq : (p.drop f).length = n - f := by rw [List.length_drop, hn]
  have hoff : ∀ b ∈ L1, Off b.g b.o (b.cap * 2) a.g (a.o + f * 2) ((a.cap - f) * 2) := fun b hb => by
    rw [hL1] at hb
    obtain ⟨j, hj⟩ := List.getElem?_of_mem hb
    by_cases hij : i = j
    · subst hij
      rw [List.getElem?_set_self (by omega)] at hj
      obtain rfl := Option.some.inj hj
      right; left
      exact Nat.le_refl _
    · rw [List.getElem?_set_ne hij] at hj
      exact Sub.off (a := a) (a' := ⟨a.g, a.o + f * 2, a.cap - f⟩) ⟨rfl, by show a.o ≤ a.o + f * 2; omega, by show a.o + f * 2 + (a.cap - f) * 2 ≤ _; omega⟩ (off_of HH.out.apart HA.out hj hij)
  have hag : ∃ b ∈ L1, a.g = b.g := ⟨⟨a.g, a.o, f⟩, by rw [hL1]; exact List.mem_of_getElem? (i := i) (by rw [List.getElem?_set_self (by omega)]), rfl⟩
  have hrow := hu.row
  have hu2 := hu
  rw [← hPl] at hu2
  have hrow2 := hu2.row
  rw [hPl] at hrow2
  have HINS : Hid (∀ W4, Below W3.heap.size W3 W4 → ∀ b, W4.heap[b]? = some (.cells #[.slice (some ⟨a.g, a.o + f * 2, none⟩) (n - f) (a.cap - f)] 40 (0, 0)) → W3.heap.size ≤ b →
      Calls Tryz.prog 91 #[.slice (some ⟨g, 0, none⟩) P.length c, .int .i64 ((i : Int) + 1), .slice (some ⟨b, 0, none⟩) 1 1] W4 fun e w5 => ∃ v', e = .returned v' ∧ St (w5.setCell ⟨s, 1, none⟩ v') s most v' (insAt L1 (i + 1) ⟨a.g, a.o + f * 2, a.cap - f⟩) (insAt P1 (i + 1) (p.drop f)) ∧ Touch (Owns s (.slice (some ⟨g, 0, none⟩) P.length c) L1) W3 (w5.setCell ⟨s, 1, none⟩ v') ∧ (∀ k, Owns s v' (insAt L1 (i + 1) ⟨a.g, a.o + f * 2, a.cap - f⟩) k → Owns s (.slice (some ⟨g, 0, none⟩) P.length c) L1 k ∨ W3.heap.size ≤ k) ∧ (w5.cell? ⟨s, 1, none⟩).isSome = true ∧ w5.frozen? ⟨s, 1, none⟩ = false ∧ ∃ A m d, v' = .slice A m d) := Lib.hid (fun W4 hb b hx hbl => by
    rw [← hPl]
    have hr : RowIs W3 1 (.slice (some ⟨g, 0, none⟩) P1.length c) P1.length (pgsV L1 P1) := hu2.row
    obtain ⟨hPA, hn1, hl1⟩ := hr.area (pgsV_one L1 P1)
    have hgl := hPA.lt
    have hpv : ([.slice (some ⟨a.g, a.o + f * 2, none⟩) (n - f) (a.cap - f)] : List Value) = [plV ⟨a.g, a.o + f * 2, a.cap - f⟩ (p.drop f)] := by unfold plV; rw [hq]
    have hI := insertP (hPA.below hb) (by omega) (i := i + 1) (n := P1.length) (xs := [.slice (some ⟨a.g, a.o + f * 2, none⟩) (n - f) (a.cap - f)]) (by omega) hn1 (by omega) hx rfl (by intro u hu; simp only [List.mem_cons, List.not_mem_nil, or_false] at hu; subst hu; rfl) (by omega)
    rw [hpv] at hI
    refine hI.mono (fun e w5 hi => St.inserted (W1 := W4) (j := i + 1) (a := ⟨a.g, a.o + f * 2, a.cap - f⟩) (q := p.drop f) (c := c) hu2 hb hi (by omega) hA2 (by rw [hq]; show n - f ≤ a.cap - f; omega) hag hoff))
  have HUT := Lib.hid hut
  have HEQ : Hid (cutP P i f p = insAt P1 (i + 1) (p.drop f)) := Lib.hid (by unfold cutP; rw [hP1])
  have HOW : Hid (∀ k, Owns s (.slice (some ⟨g, 0, none⟩) P.length c) L1 k → Owns s v L k) := Lib.hid (fun k hk => by
    rcases hk with rfl | hk | ⟨b, hb, rfl⟩
    · exact .inl rfl
    · exact .inr (.inl (by rw [hv]; exact hk))
    · rw [hL1] at hb
      rcases List.mem_or_eq_of_mem_set hb with hb | rfl
      · exact .inr (.inr ⟨b, hb, rfl⟩)
      · exact .inr (.inr ⟨a, List.mem_of_getElem? HA.out, rfl⟩))
  have HFIN : Hid (∀ (w5 : World) v', St (w5.setCell ⟨s, 1, none⟩ v') s most v' (insAt L1 (i + 1) ⟨a.g, a.o + f * 2, a.cap - f⟩) (insAt P1 (i + 1) (p.drop f)) → Touch (Owns s (.slice (some ⟨g, 0, none⟩) P.length c) L1) W3 (w5.setCell ⟨s, 1, none⟩ v') → (∀ k, Owns s v' (insAt L1 (i + 1) ⟨a.g, a.o + f * 2, a.cap - f⟩) k → Owns s (.slice (some ⟨g, 0, none⟩) P.length c) L1 k ∨ W3.heap.size ≤ k) → StPost w s most v L (cutP P i f p) (w5.setCell ⟨s, 1, none⟩ v')) := Lib.hid (fun w5 v' h1 h2 h3 => by
    rw [HEQ.out]
    have hs := HUT.out.size
    exact ⟨v', _, h1, HUT.out.trans h2 (fun k _ e => HOW.out k e), fun k hk => (h3 k hk).imp (HOW.out k) (fun e => by omega)⟩)
  have hW4 : W3 = (w.setCell ⟨g, i, none⟩ (.slice (some ⟨a.g, a.o, none⟩) f f)).drew := hW3.trans rfl
  rw [← hW4]
  clear hu hu2 hut hrow hrow2 hA2 hoff hag hL1 hP1 hW3 hW4 HU HUT HEQ HOW HA2 HH HA HP HV KT KS KS2 kt1 kt2
  clear hLL hPl hq hv
  have hbn := below_new (w := W3) (.cells #[.slice (some ⟨a.g, a.o + f * 2, none⟩) (n - f) (a.cap - f)] 40)
  have HCALL := Lib.hid (HINS.out _ (below_drew hbn) W3.heap.size (alloc_at W3 _) (Nat.le_refl _))
  have ks3 : (W3.alloc (.cells #[.slice (some ⟨a.g, a.o + f * 2, none⟩) (n - f) (a.cap - f)] 40)).cell? ⟨s, 1, none⟩ = some (.slice (some ⟨g, 0, none⟩) P.length c) := (hbn.cell (p := ⟨s, 1, none⟩) (World.block_lt_of_cell? _ _ ks2)).trans ks2
  have hwi : IntKind.i64.wrap ((i : Int) + 1) = (i : Int) + 1 := IntWalk.i64_in _ (by omega)
  clear hbn HINS
  go_wp2_with fail
  refine wp_only ?_
  refine wp_region_held_drew (S := fun _ => True) (by kernel_rfl) trivial (fun hHeld => ?_)
  refine wpAnyH_take (i := 0) (oi := { dst := some 26, op := Op.move (Operand.tmp 0), type := 23, pos := "change.go:60", after := #[], guard := none }) (v := ?vv12) rfl (by kernel_rfl) (by kernel_rfl) (by kernel_rfl) (fun _ _ _ h => h) ?hy12 (by assumption) ?rest12
  case hy12 => (refine Or.inl ⟨by rfl, ?_⟩; intro W hSw; (try dsimp only at hSw); go_simp; (try with_reducible rfl))
  try simp only [Act.put, List.setIfInBounds_toArray, List.set_cons_zero, List.set_cons_succ]
  refine wpAnyH_take (i := 1) (oi := { dst := some 27, op := Op.move (Operand.tmp 0), type := 23, pos := "change.go:60", after := #[], guard := none }) (v := ?vv13) rfl (by kernel_rfl) (by kernel_rfl) (by kernel_rfl) (fun _ _ _ h => h) ?hy13 (by assumption) ?rest13
  case hy13 => (refine Or.inl ⟨by rfl, ?_⟩; intro W hSw; (try dsimp only at hSw); go_simp; (try with_reducible rfl))
  try simp only [Act.put, List.setIfInBounds_toArray, List.set_cons_zero, List.set_cons_succ]
  refine wpAnyH_take (i := 2) (oi := { dst := some 28, op := Op.nilCheck (Operand.tmp 27), type := 0, pos := "change.go:60", after := #[{ on := 1, ground := Ground.data }], guard := none }) (v := ?vv14) rfl (by kernel_rfl) (by kernel_rfl) (by kernel_rfl) (fun _ _ _ h => h) ?hy14 (by assumption) ?rest14
  case hy14 => (refine Or.inl ⟨by rfl, ?_⟩; intro W hSw; (try dsimp only at hSw); go_simp; (try with_reducible rfl))
  try simp only [Act.put, List.setIfInBounds_toArray, List.set_cons_zero, List.set_cons_succ]
  refine wpAnyH_take (i := 3) (oi := { dst := some 29, op := Op.fieldAddr 64 (Operand.tmp 28) 1, type := 0, pos := "change.go:60", after := #[{ on := 2, ground := Ground.data }], guard := none }) (v := ?vv15) rfl (by kernel_rfl) (by kernel_rfl) (by kernel_rfl) (fun _ _ _ h => h) ?hy15 (by assumption) ?rest15
  case hy15 => (refine Or.inl ⟨by rfl, ?_⟩; intro W hSw; (try dsimp only at hSw); go_simp; (try with_reducible rfl))
  try simp only [Act.put, List.setIfInBounds_toArray, List.set_cons_zero, List.set_cons_succ]
  refine wpAnyH_take (i := 5) (oi := { dst := some 31, op := Op.move (Operand.tmp 1), type := 3, pos := "change.go:60", after := #[], guard := none }) (v := ?vv16) rfl (by kernel_rfl) (by kernel_rfl) (by kernel_rfl) (fun _ _ _ h => h) ?hy16 (by assumption) ?rest16
  case hy16 => (refine Or.inl ⟨by rfl, ?_⟩; intro W hSw; (try dsimp only at hSw); go_simp; (try with_reducible rfl))
  try simp only [Act.put, List.setIfInBounds_toArray, List.set_cons_zero, List.set_cons_succ]
  refine wpAnyH_take (i := 6) (oi := { dst := some 32, op := Op.binOp BinOp.add 3 (Operand.tmp 31) (Operand.const (Value.int IntKind.i64 1)) 3, type := 3, pos := "change.go:60", after := #[{ on := 5, ground := Ground.data }], guard := none }) (v := ?vv17) rfl (by kernel_rfl) (by kernel_rfl) (by kernel_rfl) (fun _ _ _ h => h) ?hy17 (by assumption) ?rest17
  case hy17 => (refine Or.inl ⟨by rfl, ?_⟩; intro W hSw; (try dsimp only at hSw); go_simp; (try with_reducible rfl))
  try simp only [Act.put, List.setIfInBounds_toArray, List.set_cons_zero, List.set_cons_succ]
  refine wpAnyH_take (i := 7) (oi := { dst := some 33, op := Op.move (Operand.tmp 4), type := 40, pos := "change.go:60", after := #[], guard := none }) (v := ?vv18) rfl (by kernel_rfl) (by kernel_rfl) (by kernel_rfl) (fun _ _ _ h => h) ?hy18 (by assumption) ?rest18
  case hy18 => (refine Or.inl ⟨by rfl, ?_⟩; intro W hSw; (try dsimp only at hSw); go_simp; (try with_reducible rfl))
  try simp only [Act.put, List.setIfInBounds_toArray, List.set_cons_zero, List.set_cons_succ]
  refine wpAnyH_take (i := 8) (oi := { dst := some 34, op := Op.move (Operand.tmp 5), type := 3, pos := "change.go:60", after := #[], guard := none }) (v := ?vv19) rfl (by kernel_rfl) (by kernel_rfl) (by kernel_rfl) (fun _ _ _ h => h) ?hy19 (by assumption) ?rest19
  case hy19 => (refine Or.inl ⟨by rfl, ?_⟩; intro W hSw; (try dsimp only at hSw); go_simp; (try with_reducible rfl))
  try simp only [Act.put, List.setIfInBounds_toArray, List.set_cons_zero, List.set_cons_succ]
  refine wpAnyH_take (i := 9) (oi := { dst := some 35, op := Op.slice 40 (Operand.tmp 33) (some (Operand.tmp 34)) none none, type := 40, pos := "change.go:60", after := #[{ on := 7, ground := Ground.data }, { on := 8, ground := Ground.data }], guard := none }) (v := (.slice (some ⟨a.g, a.o + f * 2, none⟩) (n - f) (a.cap - f))) rfl (by kernel_rfl) (by kernel_rfl) (by kernel_rfl) (fun _ _ _ h => h) ?hy20 (by assumption) ?rest20
  case hy20 => ((refine Or.inl ⟨by rfl, fun W _ => ?_⟩; go_simp; rw [if_pos (by omega), if_neg (by omega)]))
  try simp only [Act.put, List.setIfInBounds_toArray, List.set_cons_zero, List.set_cons_succ]
  refine wpAnyH_ready (rs := [4, 10]) (by kernel_rfl) (by simp) ?_
  refine AllReadyH.cons (o := { dst := some 30, op := Op.load 29 (Operand.tmp 29), type := 29, pos := "change.go:60", after := #[{ on := 3, ground := Ground.data }], guard := none }) rfl (fun K hK => ?step21) ?more21
  (go_simp)
  refine hK.out _ _ ?hS21 (fun hHeld => ?rr21)
  case hS21 => (trivial)
  clear hK K
  try simp only [Act.put, List.setIfInBounds_toArray, List.set_cons_zero, List.set_cons_succ]
  · refine wpAnyH_ready (rs := [10]) (by kernel_rfl) (by simp) ?_
    refine AllReadyH.cons (o := { dst := some 36, op := Op.buildSlice 29 1 #[(0, Operand.tmp 35)], type := 29, pos := "change.go:60", after := #[{ on := 9, ground := Ground.data }], guard := none }) rfl (fun K hK => ?step22) ?more22
    case more22 => exact AllReadyH.nil
    (go_simp)
    refine hK.out _ _ ?hS22 (fun hHeld => ?rr22)
    case hS22 => (trivial)
    clear hK K
    try simp only [Act.put, List.setIfInBounds_toArray, List.set_cons_zero, List.set_cons_succ]
    refine wpAnyH_ready (rs := [11]) (by kernel_rfl) (by simp) ?_
    refine AllReadyH.cons (o := { dst := some 37, op := Op.call { callee := Callee.value (Operand.func 91), args := #[Operand.tmp 30, Operand.tmp 32, Operand.tmp 36], argTypes := #[29, 3, 29] }, type := 29, pos := "change.go:60", after := #[{ on := 4, ground := Ground.data }, { on := 6, ground := Ground.data }, { on := 10, ground := Ground.data }], guard := none }) rfl (fun K hK => ?step23) ?more23
    case more23 => exact AllReadyH.nil
    ((go_simp; go_at_call 91; refine (HCALL.out).mono ?_; rintro e w5 ⟨v', rfl, h1, h2, h3, h4, h5, vA, vm, vd, rfl⟩; go_wp2_with fail))
    refine hK.out _ _ ?hS23 (fun hHeld => ?rr23)
    case hS23 => (trivial)
    clear hK K
    try simp only [Act.put, List.setIfInBounds_toArray, List.set_cons_zero, List.set_cons_succ]
    have HE := Lib.hid (HFIN.out _ _ h1 h2 h3)
    clear h1 h2 h3 HCALL HFIN
    obtain ⟨xx, h4⟩ := Option.isSome_iff_exists.1 h4
    refine wpAnyH_take (i := 12) (oi := { dst := some 38, op := Op.nilCheck (Operand.tmp 26), type := 0, pos := "change.go:60", after := #[{ on := 0, ground := Ground.data }, { on := 0, ground := Ground.phase }, { on := 1, ground := Ground.phase }, { on := 2, ground := Ground.phase }, { on := 3, ground := Ground.phase }, { on := 4, ground := Ground.phase }, { on := 5, ground := Ground.phase }, { on := 6, ground := Ground.phase }, { on := 7, ground := Ground.phase }, { on := 8, ground := Ground.phase }, { on := 9, ground := Ground.phase }, { on := 10, ground := Ground.phase }, { on := 11, ground := Ground.phase }], guard := none }) (v := ?vv24) rfl (by kernel_rfl) (by kernel_rfl) (by kernel_rfl) (fun _ _ _ h => h) ?hy24 (by assumption) ?rest24
    case hy24 => (refine Or.inl ⟨by rfl, ?_⟩; intro W hSw; (try dsimp only at hSw); go_simp; (try with_reducible rfl))
    try simp only [Act.put, List.setIfInBounds_toArray, List.set_cons_zero, List.set_cons_succ]
    refine wpAnyH_take (i := 13) (oi := { dst := some 39, op := Op.fieldAddr 64 (Operand.tmp 38) 1, type := 0, pos := "change.go:60", after := #[{ on := 12, ground := Ground.data }, { on := 0, ground := Ground.phase }, { on := 1, ground := Ground.phase }, { on := 2, ground := Ground.phase }, { on := 3, ground := Ground.phase }, { on := 4, ground := Ground.phase }, { on := 5, ground := Ground.phase }, { on := 6, ground := Ground.phase }, { on := 7, ground := Ground.phase }, { on := 8, ground := Ground.phase }, { on := 9, ground := Ground.phase }, { on := 10, ground := Ground.phase }, { on := 11, ground := Ground.phase }], guard := none }) (v := ?vv25) rfl (by kernel_rfl) (by kernel_rfl) (by kernel_rfl) (fun _ _ _ h => h) ?hy25 (by assumption) ?rest25
    case hy25 => (refine Or.inl ⟨by rfl, ?_⟩; intro W hSw; (try dsimp only at hSw); go_simp; (try with_reducible rfl))
    try simp only [Act.put, List.setIfInBounds_toArray, List.set_cons_zero, List.set_cons_succ]
    refine wpAnyH_ready (rs := [14]) (by kernel_rfl) (by simp) ?_
    refine AllReadyH.cons (o := { dst := none, op := Op.store 29 (Operand.tmp 39) (Operand.tmp 37), type := 0, pos := "change.go:60", after := #[{ on := 13, ground := Ground.data }, { on := 11, ground := Ground.data }, { on := 11, ground := Ground.chain }, { on := 0, ground := Ground.phase }, { on := 1, ground := Ground.phase }, { on := 2, ground := Ground.phase }, { on := 3, ground := Ground.phase }, { on := 4, ground := Ground.phase }, { on := 5, ground := Ground.phase }, { on := 6, ground := Ground.phase }, { on := 7, ground := Ground.phase }, { on := 8, ground := Ground.phase }, { on := 9, ground := Ground.phase }, { on := 10, ground := Ground.phase }, { on := 11, ground := Ground.phase }], guard := none }) rfl (fun K hK => ?step26) ?more26
    case more26 => exact AllReadyH.nil
    (go_simp)
    refine hK.out _ _ ?hS26 (fun hHeld => ?rr26)
    case hS26 => (trivial)
    clear hK K
    try simp only [Act.put, List.setIfInBounds_toArray, List.set_cons_zero, List.set_cons_succ]
    refine wpAnyH_done (by kernel_rfl) ?_ _
    clear hHeld
    dsimp only [onlyN]
    go_wp2_with fail
    go_end0
    exact ⟨rfl, HE.out⟩
  · refine AllReadyH.cons (o := { dst := some 36, op := Op.buildSlice 29 1 #[(0, Operand.tmp 35)], type := 29, pos := "change.go:60", after := #[{ on := 9, ground := Ground.data }], guard := none }) rfl (fun K hK => ?step27) ?more27
    case more27 => exact AllReadyH.nil
    (go_simp)
    refine hK.out _ _ ?hS27 (fun hHeld => ?rr27)
    case hS27 => (trivial)
    clear hK K
    try simp only [Act.put, List.setIfInBounds_toArray, List.set_cons_zero, List.set_cons_succ]
    refine wpAnyH_ready (rs := [4]) (by kernel_rfl) (by simp) ?_
    have ks2 := ks3
    refine AllReadyH.cons (o := { dst := some 30, op := Op.load 29 (Operand.tmp 29), type := 29, pos := "change.go:60", after := #[{ on := 3, ground := Ground.data }], guard := none }) rfl (fun K hK => ?step28) ?more28
    case more28 => exact AllReadyH.nil
    (go_simp)
    refine hK.out _ _ ?hS28 (fun hHeld => ?rr28)
    case hS28 => (trivial)
    clear hK K
    try simp only [Act.put, List.setIfInBounds_toArray, List.set_cons_zero, List.set_cons_succ]
    refine wpAnyH_ready (rs := [11]) (by kernel_rfl) (by simp) ?_
    refine AllReadyH.cons (o := { dst := some 37, op := Op.call { callee := Callee.value (Operand.func 91), args := #[Operand.tmp 30, Operand.tmp 32, Operand.tmp 36], argTypes := #[29, 3, 29] }, type := 29, pos := "change.go:60", after := #[{ on := 4, ground := Ground.data }, { on := 6, ground := Ground.data }, { on := 10, ground := Ground.data }], guard := none }) rfl (fun K hK => ?step29) ?more29
    case more29 => exact AllReadyH.nil
    ((go_simp; go_at_call 91; refine (HCALL.out).mono ?_; rintro e w5 ⟨v', rfl, h1, h2, h3, h4, h5, vA, vm, vd, rfl⟩; go_wp2_with fail))
    refine hK.out _ _ ?hS29 (fun hHeld => ?rr29)
    case hS29 => (trivial)
    clear hK K
    try simp only [Act.put, List.setIfInBounds_toArray, List.set_cons_zero, List.set_cons_succ]
    have HE := Lib.hid (HFIN.out _ _ h1 h2 h3)
    clear h1 h2 h3 HCALL HFIN
    obtain ⟨xx, h4⟩ := Option.isSome_iff_exists.1 h4
    refine wpAnyH_take (i := 12) (oi := { dst := some 38, op := Op.nilCheck (Operand.tmp 26), type := 0, pos := "change.go:60", after := #[{ on := 0, ground := Ground.data }, { on := 0, ground := Ground.phase }, { on := 1, ground := Ground.phase }, { on := 2, ground := Ground.phase }, { on := 3, ground := Ground.phase }, { on := 4, ground := Ground.phase }, { on := 5, ground := Ground.phase }, { on := 6, ground := Ground.phase }, { on := 7, ground := Ground.phase }, { on := 8, ground := Ground.phase }, { on := 9, ground := Ground.phase }, { on := 10, ground := Ground.phase }, { on := 11, ground := Ground.phase }], guard := none }) (v := ?vv30) rfl (by kernel_rfl) (by kernel_rfl) (by kernel_rfl) (fun _ _ _ h => h) ?hy30 (by assumption) ?rest30
    case hy30 => (refine Or.inl ⟨by rfl, ?_⟩; intro W hSw; (try dsimp only at hSw); go_simp; (try with_reducible rfl))
    try simp only [Act.put, List.setIfInBounds_toArray, List.set_cons_zero, List.set_cons_succ]
    refine wpAnyH_take (i := 13) (oi := { dst := some 39, op := Op.fieldAddr 64 (Operand.tmp 38) 1, type := 0, pos := "change.go:60", after := #[{ on := 12, ground := Ground.data }, { on := 0, ground := Ground.phase }, { on := 1, ground := Ground.phase }, { on := 2, ground := Ground.phase }, { on := 3, ground := Ground.phase }, { on := 4, ground := Ground.phase }, { on := 5, ground := Ground.phase }, { on := 6, ground := Ground.phase }, { on := 7, ground := Ground.phase }, { on := 8, ground := Ground.phase }, { on := 9, ground := Ground.phase }, { on := 10, ground := Ground.phase }, { on := 11, ground := Ground.phase }], guard := none }) (v := ?vv31) rfl (by kernel_rfl) (by kernel_rfl) (by kernel_rfl) (fun _ _ _ h => h) ?hy31 (by assumption) ?rest31
    case hy31 => (refine Or.inl ⟨by rfl, ?_⟩; intro W hSw; (try dsimp only at hSw); go_simp; (try with_reducible rfl))
    try simp only [Act.put, List.setIfInBounds_toArray, List.set_cons_zero, List.set_cons_succ]
    refine wpAnyH_ready (rs := [14]) (by kernel_rfl) (by simp) ?_
    refine AllReadyH.cons (o := { dst := none, op := Op.store 29 (Operand.tmp 39) (Operand.tmp 37), type := 0, pos := "change.go:60", after := #[{ on := 13, ground := Ground.data }, { on := 11, ground := Ground.data }, { on := 11, ground := Ground.chain }, { on := 0, ground := Ground.phase }, { on := 1, ground := Ground.phase }, { on := 2, ground := Ground.phase }, { on := 3, ground := Ground.phase }, { on := 4, ground := Ground.phase }, { on := 5, ground := Ground.phase }, { on := 6, ground := Ground.phase }, { on := 7, ground := Ground.phase }, { on := 8, ground := Ground.phase }, { on := 9, ground := Ground.phase }, { on := 10, ground := Ground.phase }, { on := 11, ground := Ground.phase }], guard := none }) rfl (fun K hK => ?step32) ?more32
    case more32 => exact AllReadyH.nil
    (go_simp)
    refine hK.out _ _ ?hS32 (fun hHeld => ?rr32)
    case hS32 => (trivial)
    clear hK K
    try simp only [Act.put, List.setIfInBounds_toArray, List.set_cons_zero, List.set_cons_succ]
    refine wpAnyH_done (by kernel_rfl) ?_ _
    clear hHeld
    dsimp only [onlyN]
    go_wp2_with fail
    go_end0
    exact ⟨rfl, HE.out⟩
end Go.Proofs.YtkkembbeejlomaaGreatDoor
