/- order: Certify. -/
import Derived.Test.YtlbhpeeggbfcpaaZOrdQ
set_option linter.unusedSimpArgs false
set_option linter.unusedVariables false
set_option linter.unnecessarySimpa false
namespace Go.Proofs.Ytlbhpeeggbfcpaa
open Go.RowKit Go.Shelf
attribute [local go_sem] Oper.semAt_some

set_option maxRecDepth 100000 in
set_option maxHeartbeats 4000000 in
theorem Certify_any {w : World} {v : Value} {T : List Tk} (h : RowIs w 3 v T.length (tkC T)) (hl : T.length ≤ 100) (hn : ∀ t ∈ T, InR64 t.g) : Calls Try.prog 15 #[v] w fun e w' => ∃ v' o b, e = .returned (.tuple #[v', .bool b]) ∧ certP T o b ∧ SIs w' v' o ∧ Below w.heap.size w w' := by
  obtain ⟨A, cap, rfl, h1, h2, h3⟩ := id h.form
  unfold maxLen at h2
  have hlI : (T.length : Int) ≤ 1000 := by omega
  refine (callsIn_wide (n := 9)).1 ?_
  refine callsIn_of_wp_marks Try.func15 rfl trivial ?_ rfl
  simp only [Try.ntmps15, List.size_toArray, List.length_cons, List.length_nil, Nat.reduceAdd, Nat.reduceSub, Array.replicate_succ, Array.replicate_zero, List.push_toArray, List.append_toArray, List.nil_append, List.cons_append]
  refine wpIn_wide.2 ?_
  have hbA : Below w.heap.size w ((w.alloc (.cells #[.slice none 0 0] 30)).alloc (.cells #[.bool false] 4)) := (below_new _).trans ((below_new _).mono (by rw [asz]; omega))
  have HOT := Lib.hid (other_any (h.below hbA) (by omega) hn)
  have HBA := Lib.hid hbA
  have HR := Lib.hid h
  go_wp2_with fail
  refine (HOT.out).mono ?_
  rintro e w1 ⟨s, rfl, hs0, hs1, hs2, hb1⟩
  go_wp2_with fail
  have hb1' : Below w.heap.size w w1 := hbA.trans (hb1.mono hbA.size)
  have hsz : w.heap.size + 2 ≤ w1.heap.size := by have := hb1.size; rw [asz, asz] at this; exact this
  have old : ∀ (a : World) (o : Obj) (j : Nat), j < a.heap.size → (a.alloc o).heap[j]? = a.heap[j]? := fun a o j hj => Below.heap_alloc a o j hj
  have q0 : w1.heap[w.heap.size]? = some (.cells #[.slice none 0 0] 30 (0, 0)) := (hb1.block w.heap.size (by rw [asz, asz]; omega)).trans ((old _ _ _ (by rw [asz]; omega)).trans (alloc_at w _))
  have q1 : w1.heap[w.heap.size + 1]? = some (.cells #[.bool false] 4 (0, 0)) := (hb1.block (w.heap.size + 1) (by rw [asz, asz]; omega)).trans (by have := alloc_at (w.alloc (.cells #[.slice none 0 0] 30)) (.cells #[.bool false] 4); rw [asz] at this; exact this)
  have a1 := alloc_at w1 (.cells #[.int .i64 s] 3)
  have a2 := alloc_at (w1.alloc (.cells #[.int .i64 s] 3)) (.cells #[.slice none 0 0] 33)
  rw [asz] at a2
  have hb2 := below_new (w := w1) (.cells #[.int .i64 s] 3)
  have hb3 := below_new (w := w1.alloc (.cells #[.int .i64 s] 3)) (.cells #[.slice none 0 0] 33)
  have hbb : Below w1.heap.size w1 ((w1.alloc (.cells #[.int .i64 s] 3)).alloc (.cells #[.slice none 0 0] 33)) := hb2.trans (hb3.mono hb2.size)
  have HZ0 : Hid (((w1.alloc (.cells #[.int .i64 s] 3)).alloc (.cells #[.slice none 0 0] 33)).heap.size = w1.heap.size + 2) := Lib.hid (by rw [asz, asz])
  have HS0 : Hid (((w1.alloc (.cells #[.int .i64 s] 3)).alloc (.cells #[.slice none 0 0] 33)).heap[w1.heap.size]? = some (.cells #[.int .i64 s] 3 (0, 0))) := Lib.hid ((old _ _ _ (by rw [asz]; omega)).trans a1)
  have HE0 : Hid (EdB ((w1.alloc (.cells #[.int .i64 s] 3)).alloc (.cells #[.slice none 0 0] 33)) (w1.heap.size + 1) (fun _ => False) []) := Lib.hid ⟨none, 0, a2, RowIs.nil _ _, fun b e => by cases e⟩
  have HQ0 := Lib.hid ((hbb.block _ (by omega)).trans q0)
  have HQ1 := Lib.hid ((hbb.block _ (by omega)).trans q1)
  have HBW := Lib.hid (hb1'.trans (hbb.mono hb1'.size))
  have HSZ := Lib.hid hsz
  have HS2 := Lib.hid hs2
  have HSI : Hid (InR64 s) := Lib.hid ⟨by omega, by omega⟩
  generalize hW0 : (w1.alloc (.cells #[.int .i64 s] 3)).alloc (.cells #[.slice none 0 0] 33) = W0 at *
  have HNI := Lib.hid hn
  clear hb1' old q0 q1 a1 a2 hb2 hb3 hbb hb1 hs0 hs1 hs2 h h3 hW0 hbA hsz
  generalize hsb : w1.heap.size = sb at *
  clear hsb
  go_loopw [16] (fun iv wr => ∃ k : Nat, k ≤ T.length ∧ iv = .int .i64 k ∧ EdB wr (sb + 1) (fun _ => False) ((T.take k).map fun t => (t.g, s)) ∧ Below (sb + 1) W0 wr) (fun iv _ => T.length - (intOf iv).toNat)
  case atStart => exact ⟨0, Nat.zero_le _, rfl, HE0.out, Below.refl _ _⟩
  case round =>
    obtain ⟨k, hk, rfl, hE, hb⟩ := hrel
    have hbw : Below w.heap.size w wr := HBW.out.trans (hb.mono (by have := HSZ.out; omega))
    by_cases hlt : k < T.length
    · have hx : T[k]? = some T[k] := List.getElem?_eq_getElem hlt
      generalize T[k] = t at hx
      obtain ⟨c0, c1, c2⟩ := tkC_at hx
      obtain ⟨_, _, e', _, _, _, _, hcell⟩ := (HR.out.below hbw).form
      injection e' with e1 _ e3
      subst e1 e3
      obtain ⟨g, eg, k0⟩ := hcell _ _ c0
      subst eg
      obtain ⟨g1, eg1, k1⟩ := hcell _ _ c1
      injection eg1 with eg1
      injection eg1 with eg1
      subst eg1
      obtain ⟨g2, eg2, k2⟩ := hcell _ _ c2
      injection eg2 with eg2
      injection eg2 with eg2
      subst eg2
      have hi : (k : Int) < (T.length : Int) := by omega
      have hbn := below_new (w := wr) (.cells #[.int .i64 t.g, .int .i64 t.site, .int .i64 t.n] 59)
      have hse : ((T.take k).map fun t => (t.g, s)).length = k := by rw [List.length_map, List.length_take]; omega
      obtain ⟨AE, cE, AE', cE', w9, l1, l2, l3, l4, l5, _, l7, _, _⟩ := (hE.below hbn).push t.g s (by rw [hse]; omega) (fun b e => e.elim)
      rw [asz] at l2
      have hsb0 := (hb.block sb (by have := HZ0.out; omega)).trans HS0.out
      have s1 := cell_of ((hbn.block sb (heap_lt hsb0)).trans hsb0) 0
      simp at s1
      have s2 := cell_of (alloc_at wr (.cells #[.int .i64 t.g, .int .i64 t.site, .int .i64 t.n] 59)) 0
      have HF : Hid (EdB (w9.setCell ⟨sb + 1, 0, none⟩ (.slice AE' (((T.take k).map fun t => (t.g, s)).length + 1) cE')) (sb + 1) (fun _ => False) ((T.take (k + 1)).map fun t => (t.g, s)) ∧ Below (sb + 1) W0 (w9.setCell ⟨sb + 1, 0, none⟩ (.slice AE' (((T.take k).map fun t => (t.g, s)).length + 1) cE'))) := Lib.hid ⟨by rw [tk_take hx, List.map_append]; exact l5, (hb.trans (hbn.mono (by have h1 := heap_lt (hE.choose_spec.choose_spec.1); omega))).trans l7⟩
      have HLT := Lib.hid hlt
      clear hE hb hbw hk hlt hx hsb0 c0 c1 c2 hcell hbn l5 l7
      rw [hse] at l1 l2 l3 HF
      go_wp2_with (at_builtin; refine wpList_app_run rfl _ _ _ _ rfl rfl rfl l2 ?_)
      go_roundw
      case rel => exact ⟨k + 1, HLT.out, by go_num, HF.out⟩
      case measure => have := HLT.out; simp [intOf]; omega
    · obtain rfl : k = T.length := by omega
      rw [List.take_length] at hE
      have HNB := Lib.hid (neighbours_any (HR.out.below hbw) (by omega))
      have HE1 := Lib.hid hE
      have HB1 := Lib.hid hb
      have HBW1 := Lib.hid hbw
      clear hE hb hbw hlt hk
      go_wp2_with fail
      refine (HNB.out).mono ?_
      rintro e w2 ⟨B, v1, S, rfl, hp, hs, hc, hr, hB, ho, hb2⟩
      obtain ⟨A1, c1, e1, _⟩ := hr.form
      subst e1
      have hwz : sb + 2 ≤ wr.heap.size := by obtain ⟨_, _, q, _⟩ := HE1.out; have := heap_lt q; omega
      have hBz := heap_lt' hc
      have HE2 : Hid (EdB w2 (sb + 1) (fun b => b = B ∨ (Value.slice A1 S.length c1).ownBlock = some b) (T.map fun t => (t.g, s))) := Lib.hid ((HE1.out.less (F' := fun b => b = B ∨ (Value.slice A1 S.length c1).ownBlock = some b) (fun b hb e => by
        rcases e with e | e
        · omega
        · have := (ho b e).1; omega)).below hb2)
      have HF : Hid (∀ b, (b = B ∨ (Value.slice A1 S.length c1).ownBlock = some b) → sb + 2 ≤ b ∧ b < w2.heap.size) := Lib.hid (fun b e => by
        rcases e with e | e
        · omega
        · have := (ho b e).1; have := hr.lt b e; omega)
      have HQ2 := Lib.hid ((hb2.block _ (by have := HSZ.out; omega)).trans ((HB1.out.block _ (by have := HSZ.out; omega)).trans HQ0.out))
      have HQ3 := Lib.hid ((hb2.block _ (by have := HSZ.out; omega)).trans ((HB1.out.block _ (by have := HSZ.out; omega)).trans HQ1.out))
      have HS3 := Lib.hid ((hb2.block _ (by omega)).trans ((HB1.out.block _ (by omega)).trans HS0.out))
      have HBW2 := Lib.hid (HBW1.out.trans (hb2.mono HBW1.out.size))
      have HC := Lib.hid hc
      have HR2 := Lib.hid hr
      have HP := Lib.hid hp
      have HSO := Lib.hid hs
      have HSL : Hid (S.length ≤ 100) := Lib.hid (by rw [hp.length_eq]; exact hl)
      have HTM : Hid ((T.map fun t => (t.g, s)).length ≤ 100) := Lib.hid (by rw [List.length_map]; exact hl)
      have HWS : Hid (sb + 2 ≤ w2.heap.size) := Lib.hid (by have := hb2.size; omega)
      clear hp hs hc hr hB ho hb2 HNB HE1 HB1 HBW1 HE0 HQ0 HQ1 HS0 HBW HZ0 hwz hBz
      go_wp2_with fail
      refine (wpIn_wide (n := 8)).1 ?_
      refine wpIn_rangeFunc_ownH (n := 8) rfl (by omega) (gf := 53) (lb := #[.pointer (some ⟨B, 0, none⟩)]) rfl trivial (enters_of Try.func53 (by kernel_rfl) rfl)
        (near_stops 7 (by omega) B A1 c1 S (by have := HSL.out; omega) w2 (heap_lt' HC.out) HC.out HR2.out) KpB.trans ?hKb (Below.refl _ _) (fun _ => rfl)
        (fun pre W => CertR w W w.heap.size sb s B (.slice A1 S.length c1) w2.heap.size ((T.map fun t => (t.g, s)) ++ edR S pre) ∧ AllN S pre)
        (fun cd pre W => cd = .ret ∧ Below w.heap.size w W ∧ W.heap[w.heap.size]? = some (.cells #[.slice none 0 0] 30 (0, 0)) ∧ W.heap[w.heap.size + 1]? = some (.cells #[.bool false] 4 (0, 0)) ∧ BadN S)
        ?grow ?growx
        ⟨⟨HBW2.out, Nat.le_refl _, HQ2.out, HQ3.out, HS3.out, by have := HE2.out; simpa [edR] using this⟩, fun y hy => by cases hy⟩
        (fun x a' W => ∃ B1 B2, w2.heap.size ≤ B1 ∧ w2.heap.size ≤ B2 ∧ W.heap[B1]? = some (.cells (encT (rndP S x.1).1).toArray 59 (0, 0)) ∧ W.heap[B2]? = some (.cells (encT (rndP S x.1).2).toArray 59 (0, 0)) ∧ a' = { tmps := #[.slice A T.length cap, undef, .pointer (some ⟨w.heap.size, 0, none⟩), .pointer (some ⟨w.heap.size + 1, 0, none⟩), .pointer (some ⟨sb, 0, none⟩), .pointer (some ⟨sb + 1, 0, none⟩), undef, u7, .pointer (some ⟨B1, 0, none⟩), .pointer (some ⟨B2, 0, none⟩), undef, undef, .slice A T.length cap, .int .i64 s, .slice A T.length cap, .int .i64 T.length, .int .i64 T.length, .bool false, u18, u19, u20, u21, u22, u23, u24, u25, u26, u27, .slice A T.length cap, .func (.func 53) #[] #[.pointer (some ⟨B, 0, none⟩)], aggT (rndP S x.1).1, aggT (rndP S x.1).2, undef, undef, undef, undef, undef, undef, undef, undef, undef, undef, undef, undef, undef, undef, undef, undef, undef, undef, undef, undef, undef, undef, undef, undef, undef, undef, undef], defers := [] })
        ?growa ?assign ?body ?done ?stop
      case hKb =>
        intro W l' o o' hl' _ _ _
        exact ⟨World.putObj_heap_other (fun e => by have := HF.out B (.inl rfl); omega), fun g hg => World.putObj_heap_other (fun e => by have := HF.out g (.inr hg); omega)⟩
      case grow =>
        intro s' W W' row hs hg hr
        exact ⟨hs.1.walk hg hr (by have := HSZ.out; have := HWS.out; omega), hs.2⟩
      case growx =>
        intro cd s' W W' row hs hg hr
        obtain ⟨e1, hb, h0, h1, hx⟩ := hs
        exact ⟨e1, hb.grown hg hb.size (fun k e => by have := (hr k e).1; have := HWS.out; have := HSZ.out; omega), heap_walk h0 hg (fun r e => (hr r e).2), heap_walk h1 hg (fun r e => (hr r e).2), hx⟩
      case growa =>
        intro x a' s' X Y row hs hg hr
        obtain ⟨B1, B2, q1, q2, e1, e2, e3⟩ := hs
        exact ⟨B1, B2, q1, q2, heap_walk e1 hg (fun r e => (hr r e).2), heap_walk e2 hg (fun r e => (hr r e).2), e3⟩
      case assign =>
        rintro l' pre x W K ⟨hcr, hn⟩ hK
        simp only [rndT]
        generalize rndP S x.1 = u at *
        obtain ⟨p, q⟩ := u
        simp only [aggT]
        gi_wp2
        have hbn1 := below_new (w := W) (.cells #[.int .i64 p.g, .int .i64 p.site, .int .i64 p.n] 59)
        have hbn2 := below_new (w := W.alloc (.cells #[.int .i64 p.g, .int .i64 p.site, .int .i64 p.n] 59)) (.cells #[.int .i64 q.g, .int .i64 q.site, .int .i64 q.n] 59)
        have hbb := hbn1.trans (hbn2.mono hbn1.size)
        have ha2 := alloc_at (W.alloc (.cells #[.int .i64 p.g, .int .i64 p.site, .int .i64 p.n] 59)) (.cells #[.int .i64 q.g, .int .i64 q.site, .int .i64 q.n] 59)
        rw [asz] at ha2
        have hz := hcr.big
        refine hK _ _ (((KeepsOthers.alloc _ _).from _).trans ((KeepsOthers.alloc _ _).from _)) ⟨hbb.block _ (by have := HF.out B (.inl rfl); omega), fun g hg => hbb.block _ (by have := HF.out g (.inr hg); omega)⟩ ⟨hcr.below hbb, hn⟩ ⟨W.heap.size, W.heap.size + 1, hz, by omega, (hbn2.block _ (by rw [asz]; omega)).trans (alloc_at W _), ha2, rfl⟩
      case body =>
        rintro l' pre x a' W hl' _ ⟨hcr, hn0⟩ ⟨B1, B2, hB1, hB2, bX, bY, rfl⟩ hlt
        have hx2 : (rndP S x.1).1.n ≠ (rndP S x.1).2.n → AllN S (pre ++ [x]) := fun e y hy => by
          rcases List.mem_append.1 hy with hy | hy
          · exact hn0 y hy
          · rw [List.mem_singleton.1 hy]; exact e
        have hx3 : (rndP S x.1).1.n = (rndP S x.1).2.n → BadN S := fun e => ⟨x, e⟩
        have hES := edR_snoc S pre x
        have hEL := edR_len S pre
        have hPL : pre.length < S.length := Nat.lt_of_lt_of_le hlt (adjL_len S)
        have HX2 := Lib.hid hx2
        have HX3 := Lib.hid hx3
        have HES := Lib.hid hES
        clear hES
        generalize rndP S x.1 = u at *
        obtain ⟨p, q⟩ := u
        simp only [aggT]
        have c0 := cell_of bX 0
        have c2 := cell_of bX 2
        have d0 := cell_of bY 0
        have d2 := cell_of bY 2
        simp [encT] at c0 c2 d0 d2
        have HWz : Hid (w.heap.size + 2 ≤ sb ∧ sb + 2 ≤ w2.heap.size) := Lib.hid ⟨HSZ.out, HWS.out⟩
        by_cases hn : p.n = q.n
        · have hbn : (p.n == q.n) = true := by rw [hn]; exact beq_self_eq_true _
          have hz := HWz.out
          have f0 := free0 hcr.r0 0
          have r0 := cell_of hcr.r0 0
          have q1' : (W.setCell ⟨w.heap.size, 0, none⟩ (.slice none 0 0)).heap[w.heap.size + 1]? = some (.cells #[.bool false] 4 (0, 0)) := (Below.heap_setCell _ _ _ _ (by show w.heap.size + 1 ≠ w.heap.size; omega)).trans hcr.r1
          have f1 := free0 q1' 0
          have r1 := cell_of q1' 0
          simp at r0 r1
          have s0 : (W.setCell ⟨w.heap.size, 0, none⟩ (.slice none 0 0)).heap[w.heap.size]? = some (.cells #[.slice none 0 0] 30 (0, 0)) := by have := set_at hcr.r0 0 (.slice none 0 0); simpa using this
          have s1 : ((W.setCell ⟨w.heap.size, 0, none⟩ (.slice none 0 0)).setCell ⟨w.heap.size + 1, 0, none⟩ (.bool false)).heap[w.heap.size + 1]? = some (.cells #[.bool false] 4 (0, 0)) := by have := set_at q1' 0 (.bool false); simpa using this
          have HS0 := Lib.hid ((Below.heap_setCell (W.setCell ⟨w.heap.size, 0, none⟩ (.slice none 0 0)) ⟨w.heap.size + 1, 0, none⟩ (.bool false) w.heap.size (by show w.heap.size ≠ w.heap.size + 1; omega)).trans s0)
          have HS1 := Lib.hid s1
          have HK5 := Lib.hid ((KeepsFrom.of_grownBy (B := w2.heap.size) (grownBy_setCell' W w.heap.size (.slice none 0 0)) (fun j e => by cases e; omega)).trans (KeepsFrom.of_grownBy (B := w2.heap.size) (grownBy_setCell' (W.setCell ⟨w.heap.size, 0, none⟩ (.slice none 0 0)) (w.heap.size + 1) (.bool false)) (fun j e => by cases e; omega)))
          have HB5 := Lib.hid ((hcr.bel.setCell (p := ⟨w.heap.size, 0, none⟩) (Nat.le_refl _) (.slice none 0 0)).setCell (p := ⟨w.heap.size + 1, 0, none⟩) (Nat.le_succ _) (.bool false))
          have HXX := Lib.hid (HX3.out hn)
          clear hz s0 s1 hn hcr q1' hx2 hx3 hn0 bX bY
          gi_wp2
          exact ⟨HK5.out, rfl, HB5.out, HS0.out, HS1.out, HXX.out⟩
        · have hbn : (p.n == q.n) = false := by rw [beq_eq_false_iff_ne]; exact hn
          have HXX := Lib.hid (HX2.out hn)
          by_cases hg : p.g = q.g
          · have hbg : (p.g == q.g) = true := by rw [hg]; exact beq_self_eq_true _
            have hbg2 : (p.g != q.g) = false := by rw [hg]; simp
            have HF5 : Hid (CertR w W w.heap.size sb s B (.slice A1 S.length c1) w2.heap.size ((T.map fun t => (t.g, s)) ++ edR S (pre ++ [x])) ∧ AllN S (pre ++ [x])) := Lib.hid ⟨by rw [HES.out, show edP (p, q) = [] from if_pos hg, List.append_nil]; exact hcr, HXX.out⟩
            clear hcr hg hn hx2 hx3 hn0 bX bY
            gi_wp2
            exact ⟨KeepsFrom.refl _ _, ⟨rfl, fun _ _ => rfl⟩, HF5.out⟩
          · have hbg : (p.g == q.g) = false := by rw [beq_eq_false_iff_ne]; exact hg
            have hbg2 : (p.g != q.g) = true := by simp [hg]
            have HE6 : Hid ((T.map fun t => (t.g, s)) ++ edR S (pre ++ [x]) = ((T.map fun t => (t.g, s)) ++ edR S pre) ++ [(q.g, p.g)]) := Lib.hid (by rw [HES.out, show edP (p, q) = [(q.g, p.g)] from if_neg hg, ← List.append_assoc])
            have HL6 : Hid (((T.map fun t => (t.g, s)) ++ edR S pre).length ≤ 200 ∧ 0 < ((T.map fun t => (t.g, s)) ++ edR S pre).length) := Lib.hid (by have := HTM.out; have := HSL.out; have h5 := HP.out.length_eq; rw [List.length_append]; rw [List.length_map] at *; omega)
            generalize (T.map fun t => (t.g, s)) ++ edR S pre = EE at hcr HE6 HL6
            obtain ⟨AE, cE, AE', cE', w9, l1, l2, l3, l4, l5, l6, l7, l8, l9⟩ := hcr.ed.push q.g p.g (by have := HL6.out; omega) (fun b e => by have := HF.out b e; have := hcr.big; omega)
            have hz := HWz.out
            have hbig := hcr.big
            have HF5 : Hid (KeepsFrom w2.heap.size W (w9.setCell ⟨sb + 1, 0, none⟩ (.slice AE' (EE.length + 1) cE')) ∧ KpB B (.slice A1 S.length c1) W (w9.setCell ⟨sb + 1, 0, none⟩ (.slice AE' (EE.length + 1) cE')) ∧ CertR w (w9.setCell ⟨sb + 1, 0, none⟩ (.slice AE' (EE.length + 1) cE')) w.heap.size sb s B (.slice A1 S.length c1) w2.heap.size ((T.map fun t => (t.g, s)) ++ edR S (pre ++ [x])) ∧ AllN S (pre ++ [x])) := Lib.hid ⟨EdB.keeps l8 HL6.out.2 (by omega) l9, ⟨l6 _ (by have := HF.out B (.inl rfl); omega) (by have := HF.out B (.inl rfl); omega) (.inr (.inl rfl)), fun g hg => l6 _ (by have := HF.out g (.inr hg); omega) (by have := HF.out g (.inr hg); omega) (.inr (.inr hg))⟩,
              ⟨hcr.bel.trans (l7.mono (by omega)), Nat.le_trans hbig l7.size, (l6 _ (by omega) (by omega) (.inl (by omega))).trans hcr.r0, (l6 _ (by omega) (by omega) (.inl (by omega))).trans hcr.r1, (l6 _ (by omega) (by omega) (.inl (by omega))).trans hcr.s0, by rw [HE6.out]; exact l5⟩, HXX.out⟩
            clear hcr hg hn hx2 hx3 hn0 bX bY hz l5 l6 l7 l8 l9 hbig hEL hPL
            gi_wp2_with (gi_at_builtin; refine wpListIn_app_run rfl _ _ _ _ rfl rfl rfl l2 ?_)
            exact HF5.out
      case done =>
        rintro D ys W hD hys ⟨hcr, hn0⟩ hK
        have hd := hcr.ed
        have hall := hn0.all hys
        rw [edR_all hys] at hd
        have hyl : (adjE S).length ≤ 100 := by rw [← edR_all hys]; have := edR_len S ys; have h5 := congrArg List.length hys; rw [List.length_map, List.length_range] at h5; have := adjL_len S; have := HSL.out; omega
        have HE1 : Hid (∀ e ∈ edgesT T S s, InR64 e.1 ∧ InR64 e.2) := Lib.hid (fun e he => by
          have hin : ∀ t ∈ S, InR64 t.g := fun t ht => HNI.out t (HP.out.mem_iff.1 ht)
          rcases List.mem_append.1 he with h | h
          · obtain ⟨t, ht, rfl⟩ := List.mem_map.1 h
            exact ⟨HNI.out t ht, HSI.out⟩
          · obtain ⟨p, hp, i1, i2, _⟩ := mem_adjE.1 (show (e.1, e.2) ∈ adjE S from h)
            obtain ⟨m1, m2, _⟩ := adj_mem (adj_once HSO.out hall) hp
            exact ⟨i1 ▸ hin _ m2, i2 ▸ hin _ m1⟩)
        have HE2 : Hid ((edgesT T S s).length ≤ 200) := Lib.hid (by show ((T.map fun t => (t.g, s)) ++ adjE S).length ≤ 200; rw [List.length_append]; have := HTM.out; omega)
        have HFN : Hid (∀ (ns o : List Int) (b : Bool), KeysP (edgesT T S s) ns → ordP (graphR (edgesT T S s)) ns ns.length [] = (if b then some o else none) → (b = false → o = []) → certP T (o.filter fun x => !(x == s)) b) := Lib.hid (fun ns o b h1 h2 h3 => cert_fin HP.out HSO.out hall HS2.out h1 h2 h3)
        have hd' : EdB W (sb + 1) (fun b => b = B ∨ (Value.slice A1 S.length c1).ownBlock = some b) (edgesT T S s) := hd
        clear hd
        generalize edgesT T S s = EE at *
        obtain ⟨AE, cE, e1, e2, e3⟩ := hd'
        have HOR := Lib.hid (order_any e2.edges HE1.out (by have := HE2.out; omega))
        have c0 := cell_of e1 0
        simp at c0
        have HK := Lib.hid hK
        have HCR := Lib.hid (And.intro hcr.bel (And.intro hcr.r0 (And.intro hcr.r1 (And.intro hcr.s0 hcr.big))))
        clear e1 e2 e3 hall hK hcr hn0 hys
        go_wp2_with fail
        refine (HOR.out).mono ?_
        rintro e w3 ⟨vo, o, b, ns, rfl, hk, hor, hbo, hoi, hrow, hown, hb3⟩
        obtain ⟨hbel, h0, h1, hs0, hbig⟩ := HCR.out
        have hsz : w.heap.size + 2 ≤ sb ∧ sb + 2 ≤ w2.heap.size := ⟨HSZ.out, HWS.out⟩
        have hol : o.length ≤ 400 := by
          cases b with
          | false => rw [hbo rfl]; exact Nat.zero_le _
          | true =>
            obtain ⟨hi, _⟩ := hoi rfl
            have := nodup_le (m := EE.map (·.1) ++ EE.map (·.2)) hi.one (fun y hy => by
              obtain ⟨e, he, h5⟩ := (hk.mem y).1 (hi.sub y hy)
              rcases h5 with h5 | h5
              · exact List.mem_append_left _ (List.mem_map.2 ⟨e, he, h5.symm⟩)
              · exact List.mem_append_right _ (List.mem_map.2 ⟨e, he, h5.symm⟩))
            rw [List.length_append, List.length_map, List.length_map] at this
            have := HE2.out
            omega
        have hs3 : w3.cell? ⟨sb, 0, none⟩ = some (.int .i64 s) := by have := cell_of ((hb3.block sb (by omega)).trans hs0) 0; simpa using this
        have HST := Lib.hid (strike_any hrow (by omega) hs3 (fun e => by have := hown _ e; omega))
        have HCF := Lib.hid (HFN.out ns o b hk hor hbo)
        have HB3 := Lib.hid (hbel.trans (hb3.mono hbel.size))
        have HR03 := Lib.hid ((hb3.block _ (by omega)).trans h0)
        have HR13 := Lib.hid ((hb3.block _ (by omega)).trans h1)
        have HOW : Hid (∀ k, vo.ownBlock = some k → w2.heap.size ≤ k) := Lib.hid (fun k e => Nat.le_trans hbig (hown k e))
        have HOD : Hid (∀ k, vo.ownBlock = some k → k ≠ D) := Lib.hid (fun k e => by have := hown k e; have := heap_lt HK.out; omega)
        have HK3 := Lib.hid ((hb3.block _ (heap_lt HK.out)).trans HK.out)
        clear hk hor hbo hoi hrow hown hb3 hbel h0 h1 hs0 hbig hol HOR HK HCR
        go_wp2_with fail
        refine (HST.out).mono ?_
        rintro e w4 ⟨v4, rfl, hs4, ho4, ht4⟩
        have hh0 : w4.heap[w.heap.size]? = some (.cells #[.slice none 0 0] 30 (0, 0)) := (ht4.block _ (heap_lt HR03.out) (fun e => by have := HOW.out _ e; omega)).trans HR03.out
        have hh1 : w4.heap[w.heap.size + 1]? = some (.cells #[.bool false] 4 (0, 0)) := (ht4.block _ (heap_lt HR13.out) (fun e => by have := HOW.out _ e; omega)).trans HR13.out
        have f0 := free0 hh0 0
        have r0 := cell_of hh0 0
        have q1' : (w4.setCell ⟨w.heap.size, 0, none⟩ v4).heap[w.heap.size + 1]? = some (.cells #[.bool false] 4 (0, 0)) := (Below.heap_setCell _ _ _ _ (by show w.heap.size + 1 ≠ w.heap.size; omega)).trans hh1
        have f1 := free0 q1' 0
        have r1 := cell_of q1' 0
        simp at r0 r1
        have HS4 := Lib.hid hs4
        have HO4 : Hid (∀ b, v4.ownBlock = some b → w2.heap.size ≤ b) := Lib.hid (fun b e => HOW.out b (ho4 b e))
        have HT4 := Lib.hid ht4
        have HH0 := Lib.hid hh0
        have HQ1 := Lib.hid q1'
        have HSZ4 := Lib.hid hsz
        obtain ⟨A4, c4, rfl, _⟩ := id hs4.form
        clear hs4 ho4 ht4 hh0 hh1 q1' hsz
        go_wp2_with fail
        obtain ⟨z1, z2⟩ := HSZ4.out
        have hn1 : D ≠ w.heap.size := by omega
        have hn2 : D ≠ w.heap.size + 1 := by omega
        have hkD : w4.heap[D]? = some (.deferred (some [])) := (HT4.out.block _ (heap_lt HK3.out) (fun e => HOD.out _ e rfl)).trans HK3.out
        have hv4 : ∀ b, (Value.slice A4 (o.filter fun x => !(x == s)).length c4).ownBlock = some b → True := fun _ _ => trivial
        refine ⟨by simp, .inl ⟨_, _, rfl, run_takeDeferred ?_, ?_⟩⟩
        · rw [Below.heap_setCell _ _ _ _ hn2, Below.heap_setCell _ _ _ _ hn1]
          exact hkD
        · have g1 : (w4.setCell ⟨w.heap.size, 0, none⟩ (.slice A4 (o.filter fun x => !(x == s)).length c4)).heap[w.heap.size]? = some (.cells #[.slice A4 (o.filter fun x => !(x == s)).length c4] 30 (0, 0)) := by have := set_at HH0.out 0 (.slice A4 (o.filter fun x => !(x == s)).length c4); simpa using this
          have g0 := (Below.heap_setCell (w4.setCell ⟨w.heap.size, 0, none⟩ (.slice A4 (o.filter fun x => !(x == s)).length c4)) ⟨w.heap.size + 1, 0, none⟩ (.bool b) w.heap.size (by show w.heap.size ≠ w.heap.size + 1; omega)).trans g1
          have g2 : ((w4.setCell ⟨w.heap.size, 0, none⟩ (.slice A4 (o.filter fun x => !(x == s)).length c4)).setCell ⟨w.heap.size + 1, 0, none⟩ (.bool b)).heap[w.heap.size + 1]? = some (.cells #[.bool b] 4 (0, 0)) := by have := set_at HQ1.out 0 (.bool b); simpa using this
          have hT : Touch (fun k => vo.ownBlock = some k ∨ k = w.heap.size ∨ k = w.heap.size + 1) w3 ((w4.setCell ⟨w.heap.size, 0, none⟩ (.slice A4 (o.filter fun x => !(x == s)).length c4)).setCell ⟨w.heap.size + 1, 0, none⟩ (.bool b)) := ((HT4.out.mono (fun _ _ e => .inl e)).setCell ⟨w.heap.size, 0, none⟩ (fun _ => .inr (.inl rfl)) _).setCell ⟨w.heap.size + 1, 0, none⟩ (fun _ => .inr (.inr rfl)) _
          have hbf : Below w.heap.size w ((w4.setCell ⟨w.heap.size, 0, none⟩ (.slice A4 (o.filter fun x => !(x == s)).length c4)).setCell ⟨w.heap.size + 1, 0, none⟩ (.bool b)) := HB3.out.trans (hT.below (fun k e => by
            rcases e with e | e | e
            · have := HOW.out k e; omega
            · omega
            · omega) HB3.out.size)
          have hsi := HS4.out.touch (((Touch.refl (fun k => k = w.heap.size ∨ k = w.heap.size + 1) w4).setCell ⟨w.heap.size, 0, none⟩ (fun _ => .inl rfl) (.slice A4 (o.filter fun x => !(x == s)).length c4)).setCell ⟨w.heap.size + 1, 0, none⟩ (fun _ => .inr rfl) (.bool b)) (fun k hk e => by have := HO4.out k hk; omega)
          have hkD5 : ((w4.setCell ⟨w.heap.size, 0, none⟩ (.slice A4 (o.filter fun x => !(x == s)).length c4)).setCell ⟨w.heap.size + 1, 0, none⟩ (.bool b)).heap[D]? = some (.deferred (some [])) := by
            rw [Below.heap_setCell _ _ _ _ hn2, Below.heap_setCell _ _ _ _ hn1]
            exact hkD
          generalize ((w4.setCell ⟨w.heap.size, 0, none⟩ (.slice A4 (o.filter fun x => !(x == s)).length c4)).setCell ⟨w.heap.size + 1, 0, none⟩ (.bool b)) = W5 at g0 g2 hbf hsi hkD5 ⊢
          have e0 : (W5.putObj D (.deferred none)).cell? ⟨w.heap.size, 0, none⟩ = some (.slice A4 (o.filter fun x => !(x == s)).length c4) := (World.cell?_of_block (a := ⟨w.heap.size, 0, none⟩) (World.putObj_heap_other (fun e => hn1 (by first | exact e | exact e.symm)))).trans (by have := cell_of g0 0; simpa using this)
          have e1 : (W5.putObj D (.deferred none)).cell? ⟨w.heap.size + 1, 0, none⟩ = some (.bool b) := (World.cell?_of_block (a := ⟨w.heap.size + 1, 0, none⟩) (World.putObj_heap_other (fun e => hn2 (by first | exact e | exact e.symm)))).trans (by have := cell_of g2 0; simpa using this)
          refine ⟨.tuple #[.slice A4 (o.filter fun x => !(x == s)).length c4, .bool b], by simp [results, Try.results15, go_sem, e0, e1], ?_⟩
          refine ⟨_, _, b, rfl, HCF.out, ?_, ?_⟩
          · exact (hsi.walk (grownBy_putObj' W5 D (.deferred none)) (fun r e => by cases e; exact ⟨_, hkD5, rfl⟩)).sis
          · refine hbf.grown (grownBy_putObj' _ D _) hbf.size (fun k e => ?_)
            cases e
            omega
      case stop =>
        rintro D cd pre W hD _ ⟨rfl, hb, h0, h1, hx⟩ hK
        have hn1 : D ≠ w.heap.size := by have := HWS.out; have := HSZ.out; omega
        have hn2 : D ≠ w.heap.size + 1 := by have := HWS.out; have := HSZ.out; omega
        have g0 := cell_of h0 0
        have g1 := cell_of h1 0
        have HX := Lib.hid (hx.cert HP.out)
        clear hx
        gi_wp2
        refine ⟨by simp, .inl ⟨_, _, rfl, run_takeDeferred hK, ?_⟩⟩
        have e0 : (W.putObj D (.deferred none)).cell? ⟨w.heap.size, 0, none⟩ = some (.slice none 0 0) := (World.cell?_of_block (a := ⟨w.heap.size, 0, none⟩) (World.putObj_heap_other (fun e => hn1 (by first | exact e | exact e.symm)))).trans g0
        have e1 : (W.putObj D (.deferred none)).cell? ⟨w.heap.size + 1, 0, none⟩ = some (.bool false) := (World.cell?_of_block (a := ⟨w.heap.size + 1, 0, none⟩) (World.putObj_heap_other (fun e => hn2 (by first | exact e | exact e.symm)))).trans g1
        refine ⟨.tuple #[.slice none 0 0, .bool false], by simp [results, Try.results15, go_sem, e0, e1], ?_⟩
        refine ⟨_, [], false, rfl, HX.out, (RowIs.nil _ 1 : RowIs _ 1 _ ([] : List Int).length (ints [])).sis, ?_⟩
        refine hb.grown (grownBy_putObj' _ D _) hb.size (fun k e => ?_)
        cases e
        have := HWS.out
        have := HSZ.out
        omega
end Go.Proofs.Ytlbhpeeggbfcpaa
