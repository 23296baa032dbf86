/- Put: no more room; the first row. -/
import Derived.Test.YtkkembbeejlomaaGreatDoorZPagL
set_option linter.unusedSimpArgs false
set_option linter.unusedVariables false
set_option linter.unnecessarySimpa false
namespace Go.Proofs.YtkkembbeejlomaaGreatDoor
open Go.RowKit Go.Shelf Go.Sort Go.Lib

theorem putP_not {most : Nat} {P : List (List Row)} {x : Row} (hx : x.k.length ≤ 16) (ht : (findP P x.k).2.2 = false) :
    putP most P x = if 256 ≤ P.flatten.length then (P, 5) else if P = [] then ([[x]], 0) else
      if most < (insAt ((P[(findP P x.k).1]?).getD []) (findP P x.k).2.1 x).length then (cutP (P.set (findP P x.k).1 (insAt ((P[(findP P x.k).1]?).getD []) (findP P x.k).2.1 x)) (findP P x.k).1 ((insAt ((P[(findP P x.k).1]?).getD []) (findP P x.k).2.1 x).length / 2) (insAt ((P[(findP P x.k).1]?).getD []) (findP P x.k).2.1 x), 0)
      else (P.set (findP P x.k).1 (insAt ((P[(findP P x.k).1]?).getD []) (findP P x.k).2.1 x), 0) := by
  unfold putP
  rw [if_neg (by omega)]
  generalize (P[(findP P x.k).1]?).getD [] = p
  generalize findP P x.k = f at ht ⊢
  obtain ⟨i, at_, t⟩ := f
  simp only at ht
  subst ht
  rfl
set_option maxRecDepth 100000 in
set_option maxHeartbeats 4000000 in
theorem put_full {w : World} {s most : Nat} {v : Value} {L : List Pl} {P : List (List Row)} {x : Row} (h : St w s most v L P) (hF : Fine most P) (hx : x.k.length ≤ 16) (ht : (findP P x.k).2.2 = false) (hf : 256 ≤ P.flatten.length) :
    Calls Tryz.prog 43 #[.pointer (some ⟨s, 0, none⟩), .agg #[strV x.k, .int .i64 x.n]] w (PutPost w s most v L P x) := by
  have hb1 := below_new (w := w) (.cells #[.string ⟨x.k.toArray⟩, .int .i64 x.n] 42)
  have k0 : (w.alloc (.cells #[.string ⟨x.k.toArray⟩, .int .i64 x.n] 42)).cell? ⟨w.heap.size, 0, none⟩ = some (.string ⟨x.k.toArray⟩) := cell_of (alloc_at w _) 0
  have hlI : ¬ (16 : Int) < (x.k.length : Int) := by omega
  have HB := Lib.hid hb1
  have H1 := Lib.hid (h.below hb1)
  have hfi := find_any (k := x.k) (h.below hb1) hF
  simp only [strV] at hfi
  rw [ht] at hfi
  have HFI := Lib.hid hfi
  have htot := hF.total
  have HPU : Hid (putP most P x = (P, 5)) := Lib.hid (by rw [putP_not hx ht, if_pos hf])
  have HLEN := Lib.hid (fun W (hW : Below (w.alloc (.cells #[.string ⟨x.k.toArray⟩, .int .i64 x.n] 42)).heap.size (w.alloc (.cells #[.string ⟨x.k.toArray⟩, .int .i64 x.n] 42)) W) => Len_any (h.below (hb1.trans (hW.mono hb1.size))) (by omega))
  have HN := Lib.hid (fun W => new_any 5 W)
  have H := Lib.hid h
  obtain ⟨n, hn⟩ : ∃ n, P.flatten.length = n := ⟨_, rfl⟩
  rw [hn] at HLEN hf htot
  have hnI : (256 : Int) ≤ (n : Int) := by omega
  have hnI2 : (n : Int) ≤ 256 := by omega
  generalize (findP P x.k).1 = i at HFI
  generalize (findP P x.k).2.1 = at_ at HFI
  clear h hfi hb1 hn
  unfold strV
  go_enter Tryz.func43, Tryz.ntmps43
  go_wp2_with fail
  refine (HFI.out).mono ?_
  rintro e w2 ⟨rfl, hb2⟩
  have HB2 := Lib.hid hb2
  clear hb2 HFI k0
  go_wp2_with fail
  refine (HLEN.out _ HB2.out).mono ?_
  rintro e w3 ⟨rfl, hb3⟩
  have HB3 := Lib.hid (HB2.out.trans (hb3.mono HB2.out.size))
  clear hb3
  go_wp2_with fail
  refine (HLEN.out _ HB3.out).mono ?_
  rintro e w4 ⟨rfl, hb4⟩
  have HB4 := Lib.hid (HB3.out.trans (hb4.mono HB3.out.size))
  clear hb4 HB2 HB3
  go_wp2_with fail
  refine (HN.out _).mono ?_
  rintro e w5 ⟨ev, rfl, he, hb5⟩
  have HBO := Lib.hid (bound_any 256 ((n : Int) + 1) he)
  have HB5 := Lib.hid (HB4.out.trans (hb5.mono HB4.out.size))
  obtain ⟨et, eu, rfl⟩ := he.form1
  clear he hb5 HN
  go_wp2_with fail
  refine (HBO.out).mono ?_
  rintro e w6 ⟨ev6, rfl, he6, hb6⟩
  have HE6 := Lib.hid he6
  have HB6 := Lib.hid (HB5.out.trans (hb6.mono HB5.out.size))
  clear he6 hb6 HBO
  go_wp2_with fail
  go_ret
  obtain ⟨h1, h2, h3⟩ := bnd_ok 256 ((n : Int) + 1) 5 (by omega)
  exact ⟨_, _, rfl, HE6.out, h1, h2, by rw [h3, HPU.out], by rw [HPU.out]; exact StPost.start H.out (HB.out.trans (HB6.out.mono HB.out.size))⟩
/-- The first page, of one row. -/
theorem St.first {w w1 : World} {s most b1 b2 : Nat} {v : Value} {L : List Pl} {x : Row} (h : St w s most v L []) (hb : Below w.heap.size w w1) (h1 : w1.heap[b1]? = some (.cells #[strV x.k, .int .i64 x.n] 42 (0, 0))) (h2 : w1.heap[b2]? = some (.cells #[.slice (some ⟨b1, 0, none⟩) 1 1] 40 (0, 0))) (hb1 : w.heap.size ≤ b1) (hb2 : w.heap.size ≤ b2) (hne : b1 ≠ b2) :
    StPost w s most v L [[x]] (w1.setCell ⟨s, 1, none⟩ (.slice (some ⟨b2, 0, none⟩) 1 1)) := by
  have hsl := heap_lt h.head
  have hh := (hb.block s hsl).trans h.head
  have hT : Touch (fun k => k = s) w1 (w1.setCell ⟨s, 1, none⟩ (.slice (some ⟨b2, 0, none⟩) 1 1)) := Touch.setCell (S := fun k => k = s) (Touch.refl _ _) ⟨s, 1, none⟩ (fun _ => rfl) _
  have hA : Area w1 2 b1 0 1 (pgC [x]) := Area.block h1 rfl (by unfold maxLen; omega) (by simp [pgC, rowV]) (fun j u hj => by simpa [pgC, rowV] using hj) (pgC_one _)
  have hP : Area w1 1 b2 0 1 (pgsV [⟨b1, 0, 1⟩] [[x]]) := Area.block h2 rfl (by unfold maxLen; omega) (by simp [pgsV]) (fun j u hj => by simpa [pgsV, plV] using hj) (pgsV_one _ _)
  refine ⟨_, [⟨b1, 0, 1⟩], ⟨set_at hh 1 _, RowIs.touch (hP.row (n := 1) rfl (Nat.le_refl _)) hT (fun k e e2 => ?_), rfl, fun i a p ha hp => ?_, fun a ha => ?_, List.pairwise_singleton _ _, fun e => ?_⟩, (Touch.of_below hb).trans hT (fun k _ e => .inl e), fun k hk => ?_⟩
  · have e : b2 = k := Option.some.inj e
    omega
  · cases i with
    | zero =>
      obtain rfl := Option.some.inj ha
      obtain rfl := Option.some.inj hp
      exact ⟨hA.touch hT (by show ¬ b1 = s; omega), Nat.le_refl _⟩
    | succ i => simp at ha
  · obtain rfl := List.mem_singleton.1 ha
    exact ⟨by show b1 ≠ s; omega, fun e => hne (Option.some.inj e).symm⟩
  · have e : b2 = s := Option.some.inj e
    omega
  · rcases hk with rfl | hk | ⟨a, ha, rfl⟩
    · exact .inl (.inl rfl)
    · have e : b2 = k := Option.some.inj hk
      right; omega
    · obtain rfl := List.mem_singleton.1 ha
      exact .inr hb1
set_option maxRecDepth 100000 in
set_option maxHeartbeats 4000000 in
theorem put_first {w : World} {s most : Nat} {v : Value} {L : List Pl} {x : Row} (h : St w s most v L []) (hF : Fine most []) (hx : x.k.length ≤ 16) :
    Calls Tryz.prog 43 #[.pointer (some ⟨s, 0, none⟩), .agg #[strV x.k, .int .i64 x.n]] w (PutPost w s most v L [] x) := by
  have hb1 := below_new (w := w) (.cells #[.string ⟨x.k.toArray⟩, .int .i64 x.n] 42)
  have hat := alloc_at w (.cells #[.string ⟨x.k.toArray⟩, .int .i64 x.n] 42)
  have k0 : (w.alloc (.cells #[.string ⟨x.k.toArray⟩, .int .i64 x.n] 42)).cell? ⟨w.heap.size, 0, none⟩ = some (.string ⟨x.k.toArray⟩) := cell_of hat 0
  have k1 : (w.alloc (.cells #[.string ⟨x.k.toArray⟩, .int .i64 x.n] 42)).cell? ⟨w.heap.size, 1, none⟩ = some (.int .i64 x.n) := cell_of hat 1
  have hlI : ¬ (16 : Int) < (x.k.length : Int) := by omega
  have HB := Lib.hid hb1
  have HFI := Lib.hid (find_any (k := x.k) (h.below hb1) hF)
  simp only [strV] at HFI
  rw [show findP [] x.k = (0, 0, false) from rfl] at HFI
  have HPU : Hid (putP most [] x = ([[x]], 0)) := Lib.hid (by rw [putP_not hx rfl]; rfl)
  have HLEN := Lib.hid (fun W (hW : Below (w.alloc (.cells #[.string ⟨x.k.toArray⟩, .int .i64 x.n] 42)).heap.size (w.alloc (.cells #[.string ⟨x.k.toArray⟩, .int .i64 x.n] 42)) W) => Len_any (h.below (hb1.trans (hW.mono hb1.size))) (by simp))
  obtain ⟨A, c, hv, _, _, _⟩ := h.row.form
  have H := Lib.hid h
  have HC : Hid (∀ W, Below (w.alloc (.cells #[.string ⟨x.k.toArray⟩, .int .i64 x.n] 42)).heap.size (w.alloc (.cells #[.string ⟨x.k.toArray⟩, .int .i64 x.n] 42)) W → W.cell? ⟨w.heap.size, 0, none⟩ = some (.string ⟨x.k.toArray⟩) ∧ W.cell? ⟨w.heap.size, 1, none⟩ = some (.int .i64 x.n) ∧ W.cell? ⟨s, 1, none⟩ = some (.slice A 0 c)) := Lib.hid (fun W hW => ⟨(hW.cell (p := ⟨w.heap.size, 0, none⟩) (World.block_lt_of_cell? _ _ k0)).trans k0, (hW.cell (p := ⟨w.heap.size, 1, none⟩) (World.block_lt_of_cell? _ _ k1)).trans k1, by
    have := cell_of (h.below (hb1.trans (hW.mono hb1.size))).head 1
    rw [hv] at this
    exact this⟩)
  clear h hb1 hv hat
  unfold strV
  go_enter Tryz.func43, Tryz.ntmps43
  go_wp2_with fail
  refine (HFI.out).mono ?_
  rintro e w2 ⟨rfl, hb2⟩
  have HB2 := Lib.hid hb2
  clear hb2 HFI k0
  go_wp2_with fail
  refine (HLEN.out _ HB2.out).mono ?_
  rintro e w3 ⟨rfl, hb3⟩
  have HB3 := Lib.hid (HB2.out.trans (hb3.mono HB2.out.size))
  obtain ⟨c0, c1, c2⟩ := HC.out _ HB3.out
  have hq1 := below_new (w := w3) (.cells #[.string ⟨x.k.toArray⟩, .int .i64 x.n] 42)
  have hq2 : Below w3.heap.size w3 ((w3.alloc (.cells #[.string ⟨x.k.toArray⟩, .int .i64 x.n] 42)).alloc (.cells #[.slice (some ⟨w3.heap.size, 0, none⟩) 1 1] 40)) := hq1.trans ((below_new _).mono (by rw [asz]; omega))
  have hwb := HB.out.trans (HB3.out.mono HB.out.size)
  have hsl := heap_lt H.out.head
  have hh : ((w3.alloc (.cells #[.string ⟨x.k.toArray⟩, .int .i64 x.n] 42)).alloc (.cells #[.slice (some ⟨w3.heap.size, 0, none⟩) 1 1] 40)).heap[s]? = _ := (hq2.block s (Nat.lt_of_lt_of_le hsl hwb.size)).trans ((hwb.block s hsl).trans H.out.head)
  have kS : ((w3.alloc (.cells #[.string ⟨x.k.toArray⟩, .int .i64 x.n] 42)).alloc (.cells #[.slice (some ⟨w3.heap.size, 0, none⟩) 1 1] 40)).cell? ⟨s, 1, none⟩ = some v := cell_of hh 1
  have kF : ((w3.alloc (.cells #[.string ⟨x.k.toArray⟩, .int .i64 x.n] 42)).alloc (.cells #[.slice (some ⟨w3.heap.size, 0, none⟩) 1 1] 40)).frozen? ⟨s, 1, none⟩ = false := free0 hh 1
  have HFIN := Lib.hid (H.out.first (x := x) (b1 := w3.heap.size) (b2 := w3.heap.size + 1) (hwb.trans (hq2.mono hwb.size)) (((below_new _).block w3.heap.size (by rw [asz]; omega)).trans (alloc_at w3 _)) (by have := alloc_at (w3.alloc (.cells #[.string ⟨x.k.toArray⟩, .int .i64 x.n] 42)) (.cells #[.slice (some ⟨w3.heap.size, 0, none⟩) 1 1] 40); rw [asz] at this; exact this) hwb.size (by have := hwb.size; omega) (by omega))
  clear hq1 hq2 hwb hsl hh
  go_wp2_with fail
  go_ret
  exact ⟨[], .nilIface, rfl, rfl, (fun e h => by cases h), by simp, by rw [HPU.out]; rfl, by rw [HPU.out]; exact HFIN.out⟩
end Go.Proofs.YtkkembbeejlomaaGreatDoor
