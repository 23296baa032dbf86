/- Pages. -/
import Derived.Test.YtkkfgdibficifaaDoorZPagJ
set_option linter.unusedSimpArgs false
set_option linter.unusedVariables false
set_option linter.unnecessarySimpa false
namespace Go.Proofs.YtkkfgdibficifaaDoor
open Go.RowKit Go.Shelf Go.Sort Go.Lib

/-- The same cells, as what an append takes. -/
theorem Area.src {w : World} {g o cap n : Nat} {l : List Value} (h : Area w 2 g o cap l) (hl : l.length = n * 2) (c : Nat) : Src Tryd.prog 2 28 (.slice (some ⟨g, o, none⟩) n c) n l w :=
  Src.ofSlice _ Tryd.underlying28 ⟨g, o, none⟩ n c l hl (fun j u hu => by
    have hadd : (⟨g, o, none⟩ : Addr).add j = ⟨g, o + j, none⟩ := by unfold Addr.add; split <;> simp_all
    rw [hadd]
    exact h.holds j u hu) h.one
set_option maxRecDepth 100000 in
set_option maxHeartbeats 4000000 in
theorem Clone_any {w : World} {g o cap : Nat} {p : List Row} (h : Area w 2 g o cap (pgC p)) (hl : p.length ≤ 1000) (hc : p.length ≤ cap) :
    Calls Tryd.prog 27 #[.slice (some ⟨g, o, none⟩) p.length cap] w fun e w' => ∃ A c, e = .returned (.slice A p.length c) ∧ RowIs w' 2 (.slice A p.length c) p.length (pgC p) ∧ (∀ b, (Value.slice A p.length c).ownBlock = some b → w.heap.size ≤ b) ∧ Below w.heap.size w w' := by
  have hb1 := below_new (w := w) (.cells #[] 52)
  have hat := alloc_at w (.cells #[] 52)
  have hrow0 : RowIs (w.alloc (.cells #[] 52)) 2 (.slice (some ⟨w.heap.size, 0, none⟩) 0 0) 0 [] := .inr ⟨w.heap.size, 0, rfl, rfl, Nat.le_refl _, heap_lt hat, Nat.zero_le _, by unfold maxLen; omega, fun j u hj => by simp at hj, fun j hj => by omega⟩
  obtain ⟨v1, w1, hr1, h2, h3, h4⟩ := run_append_row (w.alloc (.cells #[] 52)) 28 52 28 28 Tryd.underlying28 infoR rfl (by omega) (by omega) _ 0 p.length [] (pgC p) _ hrow0 ((h.below hb1).src (by rw [pgC_len]) cap) (by omega)
  rw [Nat.zero_add, List.nil_append] at h2
  have hown : ∀ k, v1.ownBlock = some k → w.heap.size ≤ k := fun k e => by
    rcases h4 with e2 | e2
    · rw [e2] at e
      have e : w.heap.size = k := Option.some.inj e
      omega
    · rw [e] at e2
      injection e2 with e2
      rw [asz] at e2
      omega
  have hbB : Below w.heap.size w w1 := hb1.trans (((Touch.refl (fun k => (Value.slice (some ⟨w.heap.size, 0, none⟩) 0 0).ownBlock = some k) _).grown h3 (fun k e _ => e)).below (fun i e => by have e : w.heap.size = i := Option.some.inj e; omega) hb1.size)
  obtain ⟨A1, c1, rfl, _⟩ := id h2.form
  have hmx := h.max
  unfold maxLen at hmx
  have HF := Lib.hid (And.intro h2 (And.intro hown hbB))
  clear h h2 hown hbB h3 h4 hrow0 hat hb1
  have q22 : ∀ (w : World) (a : Option Addr) (n c n' c' : Nat), (binOp .eql 28 (.slice a n c) (.slice none n' c')).run Tryd.prog w = .ok (.bool a.isNone) w := fun w a n c n' c' => Lib.run_eql_slice_nil w _ _ a n c n' c' Tryd.underlying28
  go_enter Tryd.func27, Tryd.ntmps27
  go_wp2_with (at_builtin; refine wpList_app_run rfl _ _ _ _ rfl rfl rfl hr1 ?_)
  go_ret
  exact ⟨_, _, rfl, HF.out.1, HF.out.2.1, HF.out.2.2⟩
theorem wpList_run_make {P : Program} (w : World) {ops : Array Oper} {rest : List Oper} {o : Oper} {a : Act} {Q : Exit → Act → World → Prop} (hg : o.guard = none) (l c : Operand) (T : TypeId) (hop : o.op = Op.makeSlice T l c) {x y v : Value} {w' : World} (hl : a.eval l = x) (hc : a.eval c = y)
    (hr : (Instr.makeSlice T x y).run P w = .ok v w') (hK : wpList P ops Q rest (a.put o.dst v) w') : wpList P ops Q (o :: rest) a w := by
  refine wpList_plain hg fun K hK' => ?_
  unfold Oper.wp
  simp [execOp, hop, hl, hc, hr, Result.andThen]
  exact hK' _ _ hK
/-- A list of pages, of one's own. -/
def PgsIs (w : World) (B : Nat) (v : Value) (P : List (List Row)) : Prop := ∃ A c us, v = .slice A P.length c ∧ RowIs w 1 v P.length us ∧ (∀ b, v.ownBlock = some b → B ≤ b) ∧ ∀ (i : Nat) (p : List Row), P[i]? = some p → ∃ A' c', us[i]? = some (.slice A' p.length c') ∧ RowIs w 2 (.slice A' p.length c') p.length (pgC p) ∧ ∀ b, (Value.slice A' p.length c').ownBlock = some b → B ≤ b
set_option maxRecDepth 100000 in
set_option maxHeartbeats 4000000 in
theorem Pages_any {w : World} {s most : Nat} {v : Value} {L : List Pl} {P : List (List Row)} (h : St w s most v L P) (hF : Fine most P) :
    Calls Tryd.prog 17 #[.pointer (some ⟨s, 0, none⟩)] w fun e w' => ∃ v', e = .returned v' ∧ PgsIs w' w.heap.size v' P ∧ Below w.heap.size w w' := by
  obtain ⟨A, c, hv, hc1, hc2, _⟩ := h.row.form
  unfold maxLen at hc2
  have ks : w.cell? ⟨s, 1, none⟩ = some v := cell_of h.head 1
  rw [hv] at ks
  have H := Lib.hid h
  have HV := Lib.hid hv
  have hPl := hF.len
  have HF := Lib.hid hF
  have hlP : (P.length : Int) ≤ 256 := by omega
  clear h hv hF
  obtain ⟨i0, hi, hz0, hz1, hz2⟩ := info_parts infoP
  have hrun := run_make (P := Tryd.prog) w 46 28 i0 _ Tryd.underlying46 hi hz0 .i64 .i64 (P.length : Int) (P.length : Int) (by omega) (by omega) (by rw [hz2]; omega) (by omega)
  rw [hz1, Int.toNat_natCast] at hrun
  generalize hM : madeCells (Value.cells (.slice none 0 0)) (P.length * 1) = M at hrun
  have HRUN := Lib.hid hrun
  have hbn := below_new (w := w) (.cells M 28)
  have ks2 : (w.alloc (.cells M 28)).cell? ⟨s, 1, none⟩ = some (.slice A P.length c) := (hbn.cell (p := ⟨s, 1, none⟩) (World.block_lt_of_cell? _ _ ks)).trans ks
  have hMs : M.size = P.length := by rw [← hM, size_madeCells]; omega
  have hA0 : Area (w.alloc (.cells M 28)) 1 w.heap.size 0 P.length M.toList := Area.block (alloc_at w _) (by omega) (by unfold maxLen; omega) (by simp; omega) (fun j u hj => by simpa using hj) (fun u hu => by
    rw [← hM] at hu
    unfold madeCells at hu
    simp only [Array.toList_map, List.mem_map] at hu
    obtain ⟨x, _, rfl⟩ := hu
    have : x % (Value.cells (.slice none 0 0)).size = 0 := by show x % 1 = 0; omega
    rw [this]
    rfl)
  have HA0 := Lib.hid hA0
  have HMS := Lib.hid hMs
  have HBN := Lib.hid hbn
  clear hrun hi hz0 hz1 hz2 hA0 hMs hM hbn
  go_enter Tryd.func17, Tryd.ntmps17
  go_wp2_with (at_make; refine wpList_run_make _ rfl _ _ _ rfl rfl rfl HRUN.out ?_)
  clear HRUN ks ks2
  go_loopw [19] (fun iv wr => ∃ (i : Nat) (us : List Value), i ≤ P.length ∧ iv = .int .i64 i ∧ us.length = P.length ∧ Area wr 1 w.heap.size 0 P.length us ∧ (∀ (j : Nat) (p : List Row), j < i → P[j]? = some p → ∃ A' c', us[j]? = some (.slice A' p.length c') ∧ RowIs wr 2 (.slice A' p.length c') p.length (pgC p) ∧ ∀ b, (Value.slice A' p.length c').ownBlock = some b → w.heap.size < b) ∧ Below w.heap.size w wr) (fun iv _ => P.length - (intOf iv).toNat)
  case atStart => exact ⟨0, M.toList, Nat.zero_le _, rfl, by simp [HMS.out], HA0.out, fun j p hj => by omega, HBN.out⟩
  case round =>
    obtain ⟨i, us, hi, rfl, hul, hAu, hall, hbw⟩ := hrel
    by_cases hlt : i < P.length
    · have hp : P[i]? = some P[i] := List.getElem?_eq_getElem hlt
      generalize P[i] = p at hp
      obtain ⟨a, g, c', ha, hv2, _, _, kc, hA, hac⟩ := row_page (H.out.below hbw) hp
      have hv3 := HV.out.symm.trans hv2
      injection hv3 with e1 _ e3
      subst e1 e3
      have hpl := (HF.out.page hp).2.2
      have HCL := Lib.hid (Clone_any hA (by omega) hac)
      have hiI : (i : Int) < (P.length : Int) := by omega
      have HP := Lib.hid hp
      have HAU := Lib.hid hAu
      have HALL := Lib.hid hall
      have HBW := Lib.hid hbw
      have HUL := Lib.hid hul
      have HLT := Lib.hid hlt
      clear hp ha hv2 hA hac hAu hall hbw hul hlt
      go_wp2_with fail
      refine (HCL.out).mono ?_
      rintro e w2 ⟨A2, c2, rfl, hr2, ho2, hb2⟩
      have hA2 := HAU.out.below hb2
      obtain ⟨q1, q2⟩ := hA2.there i (by have := HLT.out; omega)
      rw [Nat.zero_add] at q1 q2
      obtain ⟨xx, q1⟩ := Option.isSome_iff_exists.1 q1
      have hset := hA2.set1 (i := i) (by rw [HUL.out]; exact HLT.out) (.slice A2 p.length c2) rfl
      rw [Nat.zero_add] at hset
      have hT : Touch (fun k => k = w.heap.size) w2 (w2.setCell ⟨w.heap.size, i, none⟩ (.slice A2 p.length c2)) := Touch.setCell (S := fun k => k = w.heap.size) (Touch.refl _ _) ⟨w.heap.size, i, none⟩ (fun _ => rfl) _
      have hwr := HAU.out.lt
      have HALL2 : Hid (∀ (j : Nat) (q : List Row), j < i + 1 → P[j]? = some q → ∃ A' c', (us.set i (.slice A2 p.length c2))[j]? = some (.slice A' q.length c') ∧ RowIs (w2.setCell ⟨w.heap.size, i, none⟩ (.slice A2 p.length c2)) 2 (.slice A' q.length c') q.length (pgC q) ∧ ∀ b, (Value.slice A' q.length c').ownBlock = some b → w.heap.size < b) := Lib.hid (fun j q hj hq => by
        by_cases hji : i = j
        · subst hji
          obtain rfl := Option.some.inj (HP.out.symm.trans hq)
          exact ⟨A2, c2, by rw [List.getElem?_set_self (by rw [HUL.out]; exact HLT.out)], RowIs.touch hr2 hT (fun k e e2 => by have := ho2 k e; omega), fun b e => by have := ho2 b e; omega⟩
        · obtain ⟨A', c', h1, h2, h3⟩ := HALL.out j q (by omega) hq
          exact ⟨A', c', by rw [List.getElem?_set_ne hji]; exact h1, RowIs.touch (h2.below hb2) hT (fun k e e2 => by have := h3 k e; omega), h3⟩)
      have HSET := Lib.hid hset
      have HBB : Hid (Below w.heap.size w (w2.setCell ⟨w.heap.size, i, none⟩ (.slice A2 p.length c2))) := Lib.hid ((HBW.out.trans (hb2.mono HBW.out.size)).trans (hT.below (fun k e => by rw [e]; exact Nat.le_refl _) (Nat.le_trans HBW.out.size hb2.size)))
      clear hA2 hset hT hr2 ho2 hb2 HALL HCL kc
      go_wp2_with fail
      go_roundw
      case rel => exact ⟨i + 1, us.set i (.slice A2 p.length c2), HLT.out, by go_num, by rw [List.length_set]; exact HUL.out, HSET.out, HALL2.out, HBB.out⟩
      case measure => have := HLT.out; simp [intOf]; omega
    · obtain rfl : i = P.length := by omega
      have HFIN : Hid (PgsIs wr w.heap.size (.slice (some ⟨w.heap.size, 0, none⟩) P.length P.length) P ∧ Below w.heap.size w wr) := Lib.hid ⟨⟨_, _, us, rfl, hAu.row (by omega) (Nat.le_refl _), fun b e => by have e : w.heap.size = b := Option.some.inj e; omega, fun j p hp => by
        obtain ⟨A', c', h1, h2, h3⟩ := hall j p (List.getElem?_eq_some_iff.1 hp).1 hp
        exact ⟨A', c', h1, h2, fun b e => Nat.le_of_lt (h3 b e)⟩⟩, hbw⟩
      clear hAu hall hbw hul
      go_wp2_with fail
      go_ret
      exact ⟨_, rfl, HFIN.out.1, HFIN.out.2⟩
end Go.Proofs.YtkkfgdibficifaaDoor
