/- How many rows there are. Pages. slices.Concat of pages. -/
import Derived.Test.YtkkembbeejlomaaGreatDoorZPagI
set_option linter.unusedSimpArgs false
set_option linter.unusedVariables false
set_option linter.unnecessarySimpa false
namespace Go.Proofs.YtkkembbeejlomaaGreatDoor
open Go.RowKit Go.Shelf Go.Sort Go.Lib

theorem flat_take {P : List (List Row)} {i : Nat} {p : List Row} (h : P[i]? = some p) : (P.take (i + 1)).flatten.length = (P.take i).flatten.length + p.length := by
  rw [List.take_add_one, h]
  simp
theorem flat_le {P : List (List Row)} (i : Nat) : (P.take i).flatten.length ≤ P.flatten.length := by
  have : P.flatten = (P.take i).flatten ++ (P.drop i).flatten := by rw [← List.flatten_append, List.take_append_drop]
  rw [this, List.length_append]
  omega
set_option maxRecDepth 100000 in
set_option maxHeartbeats 4000000 in
theorem Len_any {w : World} {s most : Nat} {v : Value} {L : List Pl} {P : List (List Row)} (h : St w s most v L P) (hl : P.flatten.length ≤ 100000) :
    Calls Tryz.prog 20 #[.pointer (some ⟨s, 0, none⟩)] w fun e w' => e = .returned (.int .i64 P.flatten.length) ∧ Below w.heap.size w w' := by
  obtain ⟨A, c, hv, hc1, hc2, _⟩ := h.row.form
  unfold maxLen at hc2
  have ks : w.cell? ⟨s, 1, none⟩ = some v := cell_of h.head 1
  rw [hv] at ks
  have H := Lib.hid h
  have HV := Lib.hid hv
  have hF : (P.flatten.length : Int) ≤ 100000 := by omega
  clear h hv
  go_enter Tryz.func20, Tryz.ntmps20
  go_wp2_with fail
  go_loopw [3, 13] (fun nv iv wr => ∃ i : Nat, i ≤ P.length ∧ iv = .int .i64 i ∧ nv = .int .i64 ((P.take i).flatten.length : Nat) ∧ w = wr) (fun _ iv _ => P.length - (intOf iv).toNat)
  case atStart => exact ⟨0, Nat.zero_le _, rfl, by simp, rfl⟩
  case round =>
    obtain ⟨i, hi, rfl, rfl, rfl⟩ := hrel
    by_cases hlt : i < P.length
    · have hp : P[i]? = some P[i] := List.getElem?_eq_getElem hlt
      generalize P[i] = p at hp
      obtain ⟨a, g, c', ha, hv2, _, _, kc, hA, hac⟩ := row_page H.out hp
      have hv3 := HV.out.symm.trans hv2
      injection hv3 with e1 _ e3
      subst e1 e3
      have h1 := flat_take hp
      have h2 := flat_le (P := P) (i + 1)
      have HT := Lib.hid h1
      have hiI : (i : Int) < (P.length : Int) := by omega
      have hn : ((P.take i).flatten.length : Int) + (p.length : Int) ≤ 100000 := by omega
      obtain ⟨n, hn1⟩ : ∃ n, (P.take i).flatten.length = n := ⟨_, rfl⟩
      rw [hn1] at hn HT ⊢
      have hw : IntKind.i64.wrap ((n : Int) + (p.length : Int)) = (n : Int) + (p.length : Int) := IntWalk.i64_in _ (by omega)
      have HLT := Lib.hid hlt
      clear h1 h2 hA hac hp ha hn1 hlt
      go_wp2_with fail
      go_roundw
      case rel => exact ⟨i + 1, HLT.out, by go_num, by rw [HT.out]; simp, trivial⟩
      case measure => have := HLT.out; simp [intOf]; omega
    · obtain rfl : i = P.length := by omega
      have hT : Hid (P.take P.length = P) := Lib.hid (List.take_length)
      rw [hT.out]
      go_wp2_with fail
      go_ret
      exact ⟨by simp, Below.refl _ _⟩
end Go.Proofs.YtkkembbeejlomaaGreatDoor

namespace Go.Proofs.YtkkembbeejlomaaGreatDoor
open Go.RowKit Go.Shelf Go.Sort Go.Lib

/-- The same cells, as what an append takes. -/
theorem Area.src {w : World} {g o cap n : Nat} {l : List Value} (h : Area w 2 g o cap l) (hl : l.length = n * 2) (c : Nat) : Src Tryz.prog 2 40 (.slice (some ⟨g, o, none⟩) n c) n l w :=
  Src.ofSlice _ Tryz.underlying40 ⟨g, o, none⟩ n c l hl (fun j u hu => by
    have hadd : (⟨g, o, none⟩ : Addr).add j = ⟨g, o + j, none⟩ := by unfold Addr.add; split <;> simp_all
    rw [hadd]
    exact h.holds j u hu) h.one
set_option maxRecDepth 100000 in
set_option maxHeartbeats 4000000 in
theorem Clone_any {w : World} {g o cap : Nat} {p : List Row} (h : Area w 2 g o cap (pgC p)) (hl : p.length ≤ 1000) (hc : p.length ≤ cap) :
    Calls Tryz.prog 44 #[.slice (some ⟨g, o, none⟩) p.length cap] w fun e w' => ∃ A c, e = .returned (.slice A p.length c) ∧ RowIs w' 2 (.slice A p.length c) p.length (pgC p) ∧ (∀ b, (Value.slice A p.length c).ownBlock = some b → w.heap.size ≤ b) ∧ Below w.heap.size w w' := by
  have hb1 := below_new (w := w) (.cells #[] 42)
  have hat := alloc_at w (.cells #[] 42)
  have hrow0 : RowIs (w.alloc (.cells #[] 42)) 2 (.slice (some ⟨w.heap.size, 0, none⟩) 0 0) 0 [] := .inr ⟨w.heap.size, 0, rfl, rfl, Nat.le_refl _, heap_lt hat, Nat.zero_le _, by unfold maxLen; omega, fun j u hj => by simp at hj, fun j hj => by omega⟩
  obtain ⟨v1, w1, hr1, h2, h3, h4⟩ := run_append_row (w.alloc (.cells #[] 42)) 40 42 40 40 Tryz.underlying40 infoR rfl (by omega) (by omega) _ 0 p.length [] (pgC p) _ hrow0 ((h.below hb1).src (by rw [pgC_len]) cap) (by omega)
  rw [Nat.zero_add, List.nil_append] at h2
  have hown : ∀ k, v1.ownBlock = some k → w.heap.size ≤ k := fun k e => by
    rcases h4 with e2 | e2
    · rw [e2] at e
      have e : w.heap.size = k := Option.some.inj e
      omega
    · rw [e] at e2
      injection e2 with e2
      rw [asz] at e2
      omega
  have hbB : Below w.heap.size w w1 := hb1.trans (((Touch.refl (fun k => (Value.slice (some ⟨w.heap.size, 0, none⟩) 0 0).ownBlock = some k) _).grown h3 (fun k e _ => e)).below (fun i e => by have e : w.heap.size = i := Option.some.inj e; omega) hb1.size)
  obtain ⟨A1, c1, rfl, _⟩ := id h2.form
  have hmx := h.max
  unfold maxLen at hmx
  have HF := Lib.hid (And.intro h2 (And.intro hown hbB))
  clear h h2 hown hbB h3 h4 hrow0 hat hb1
  have q22 : ∀ (w : World) (a : Option Addr) (n c n' c' : Nat), (binOp .eql 40 (.slice a n c) (.slice none n' c')).run Tryz.prog w = .ok (.bool a.isNone) w := fun w a n c n' c' => Lib.run_eql_slice_nil w _ _ a n c n' c' Tryz.underlying40
  go_enter Tryz.func44, Tryz.ntmps44
  go_wp2_with (at_builtin; refine wpList_app_run rfl _ _ _ _ rfl rfl rfl hr1 ?_)
  go_ret
  exact ⟨_, _, rfl, HF.out.1, HF.out.2.1, HF.out.2.2⟩
theorem wpList_run_make {P : Program} (w : World) {ops : Array Oper} {rest : List Oper} {o : Oper} {a : Act} {Q : Exit → Act → World → Prop} (hg : o.guard = none) (l c : Operand) (T : TypeId) (hop : o.op = Op.makeSlice T l c) {x y v : Value} {w' : World} (hl : a.eval l = x) (hc : a.eval c = y)
    (hr : (Instr.makeSlice T x y).run P w = .ok v w') (hK : wpList P ops Q rest (a.put o.dst v) w') : wpList P ops Q (o :: rest) a w := by
  refine wpList_plain hg fun K hK' => ?_
  unfold Oper.wp
  simp [execOp, hop, hl, hc, hr, Result.andThen]
  exact hK' _ _ hK
/-- A list of pages, of one's own. -/
def PgsIs (w : World) (B : Nat) (v : Value) (P : List (List Row)) : Prop := ∃ A c us, v = .slice A P.length c ∧ RowIs w 1 v P.length us ∧ (∀ b, v.ownBlock = some b → B ≤ b) ∧ ∀ (i : Nat) (p : List Row), P[i]? = some p → ∃ A' c', us[i]? = some (.slice A' p.length c') ∧ RowIs w 2 (.slice A' p.length c') p.length (pgC p) ∧ ∀ b, (Value.slice A' p.length c').ownBlock = some b → B ≤ b
set_option maxRecDepth 100000 in
set_option maxHeartbeats 4000000 in
theorem Pages_any {w : World} {s most : Nat} {v : Value} {L : List Pl} {P : List (List Row)} (h : St w s most v L P) (hF : Fine most P) :
    Calls Tryz.prog 17 #[.pointer (some ⟨s, 0, none⟩)] w fun e w' => ∃ v', e = .returned v' ∧ PgsIs w' w.heap.size v' P ∧ Below w.heap.size w w' := by
  obtain ⟨A, c, hv, hc1, hc2, _⟩ := h.row.form
  unfold maxLen at hc2
  have ks : w.cell? ⟨s, 1, none⟩ = some v := cell_of h.head 1
  rw [hv] at ks
  have H := Lib.hid h
  have HV := Lib.hid hv
  have hPl := hF.len
  have HF := Lib.hid hF
  have hlP : (P.length : Int) ≤ 256 := by omega
  clear h hv hF
  obtain ⟨i0, hi, hz0, hz1, hz2⟩ := info_parts infoP
  have hrun := run_make (P := Tryz.prog) w 29 40 i0 _ Tryz.underlying29 hi hz0 .i64 .i64 (P.length : Int) (P.length : Int) (by omega) (by omega) (by rw [hz2]; omega) (by omega)
  rw [hz1, Int.toNat_natCast] at hrun
  generalize hM : madeCells (Value.cells (.slice none 0 0)) (P.length * 1) = M at hrun
  have HRUN := Lib.hid hrun
  have hbn := below_new (w := w) (.cells M 40)
  have ks2 : (w.alloc (.cells M 40)).cell? ⟨s, 1, none⟩ = some (.slice A P.length c) := (hbn.cell (p := ⟨s, 1, none⟩) (World.block_lt_of_cell? _ _ ks)).trans ks
  have hMs : M.size = P.length := by rw [← hM, size_madeCells]; omega
  have hA0 : Area (w.alloc (.cells M 40)) 1 w.heap.size 0 P.length M.toList := Area.block (alloc_at w _) (by omega) (by unfold maxLen; omega) (by simp; omega) (fun j u hj => by simpa using hj) (fun u hu => by
    rw [← hM] at hu
    unfold madeCells at hu
    simp only [Array.toList_map, List.mem_map] at hu
    obtain ⟨x, _, rfl⟩ := hu
    have : x % (Value.cells (.slice none 0 0)).size = 0 := by show x % 1 = 0; omega
    rw [this]
    rfl)
  have HA0 := Lib.hid hA0
  have HMS := Lib.hid hMs
  have HBN := Lib.hid hbn
  clear hrun hi hz0 hz1 hz2 hA0 hMs hM hbn
  go_enter Tryz.func17, Tryz.ntmps17
  go_wp2_with (at_make; refine wpList_run_make _ rfl _ _ _ rfl rfl rfl HRUN.out ?_)
  clear HRUN ks ks2
  go_loopw [19] (fun iv wr => ∃ (i : Nat) (us : List Value), i ≤ P.length ∧ iv = .int .i64 i ∧ us.length = P.length ∧ Area wr 1 w.heap.size 0 P.length us ∧ (∀ (j : Nat) (p : List Row), j < i → P[j]? = some p → ∃ A' c', us[j]? = some (.slice A' p.length c') ∧ RowIs wr 2 (.slice A' p.length c') p.length (pgC p) ∧ ∀ b, (Value.slice A' p.length c').ownBlock = some b → w.heap.size < b) ∧ Below w.heap.size w wr) (fun iv _ => P.length - (intOf iv).toNat)
  case atStart => exact ⟨0, M.toList, Nat.zero_le _, rfl, by simp [HMS.out], HA0.out, fun j p hj => by omega, HBN.out⟩
  case round =>
    obtain ⟨i, us, hi, rfl, hul, hAu, hall, hbw⟩ := hrel
    by_cases hlt : i < P.length
    · have hp : P[i]? = some P[i] := List.getElem?_eq_getElem hlt
      generalize P[i] = p at hp
      obtain ⟨a, g, c', ha, hv2, _, _, kc, hA, hac⟩ := row_page (H.out.below hbw) hp
      have hv3 := HV.out.symm.trans hv2
      injection hv3 with e1 _ e3
      subst e1 e3
      have hpl := (HF.out.page hp).2.2
      have HCL := Lib.hid (Clone_any hA (by omega) hac)
      have hiI : (i : Int) < (P.length : Int) := by omega
      have HP := Lib.hid hp
      have HAU := Lib.hid hAu
      have HALL := Lib.hid hall
      have HBW := Lib.hid hbw
      have HUL := Lib.hid hul
      have HLT := Lib.hid hlt
      clear hp ha hv2 hA hac hAu hall hbw hul hlt
      go_wp2_with fail
      refine (HCL.out).mono ?_
      rintro e w2 ⟨A2, c2, rfl, hr2, ho2, hb2⟩
      have hA2 := HAU.out.below hb2
      obtain ⟨q1, q2⟩ := hA2.there i (by have := HLT.out; omega)
      rw [Nat.zero_add] at q1 q2
      obtain ⟨xx, q1⟩ := Option.isSome_iff_exists.1 q1
      have hset := hA2.set1 (i := i) (by rw [HUL.out]; exact HLT.out) (.slice A2 p.length c2) rfl
      rw [Nat.zero_add] at hset
      have hT : Touch (fun k => k = w.heap.size) w2 (w2.setCell ⟨w.heap.size, i, none⟩ (.slice A2 p.length c2)) := Touch.setCell (S := fun k => k = w.heap.size) (Touch.refl _ _) ⟨w.heap.size, i, none⟩ (fun _ => rfl) _
      have hwr := HAU.out.lt
      have HALL2 : Hid (∀ (j : Nat) (q : List Row), j < i + 1 → P[j]? = some q → ∃ A' c', (us.set i (.slice A2 p.length c2))[j]? = some (.slice A' q.length c') ∧ RowIs (w2.setCell ⟨w.heap.size, i, none⟩ (.slice A2 p.length c2)) 2 (.slice A' q.length c') q.length (pgC q) ∧ ∀ b, (Value.slice A' q.length c').ownBlock = some b → w.heap.size < b) := Lib.hid (fun j q hj hq => by
        by_cases hji : i = j
        · subst hji
          obtain rfl := Option.some.inj (HP.out.symm.trans hq)
          exact ⟨A2, c2, by rw [List.getElem?_set_self (by rw [HUL.out]; exact HLT.out)], RowIs.touch hr2 hT (fun k e e2 => by have := ho2 k e; omega), fun b e => by have := ho2 b e; omega⟩
        · obtain ⟨A', c', h1, h2, h3⟩ := HALL.out j q (by omega) hq
          exact ⟨A', c', by rw [List.getElem?_set_ne hji]; exact h1, RowIs.touch (h2.below hb2) hT (fun k e e2 => by have := h3 k e; omega), h3⟩)
      have HSET := Lib.hid hset
      have HBB : Hid (Below w.heap.size w (w2.setCell ⟨w.heap.size, i, none⟩ (.slice A2 p.length c2))) := Lib.hid ((HBW.out.trans (hb2.mono HBW.out.size)).trans (hT.below (fun k e => by rw [e]; exact Nat.le_refl _) (Nat.le_trans HBW.out.size hb2.size)))
      clear hA2 hset hT hr2 ho2 hb2 HALL HCL kc
      go_wp2_with fail
      go_roundw
      case rel => exact ⟨i + 1, us.set i (.slice A2 p.length c2), HLT.out, by go_num, by rw [List.length_set]; exact HUL.out, HSET.out, HALL2.out, HBB.out⟩
      case measure => have := HLT.out; simp [intOf]; omega
    · obtain rfl : i = P.length := by omega
      have HFIN : Hid (PgsIs wr w.heap.size (.slice (some ⟨w.heap.size, 0, none⟩) P.length P.length) P ∧ Below w.heap.size w wr) := Lib.hid ⟨⟨_, _, us, rfl, hAu.row (by omega) (Nat.le_refl _), fun b e => by have e : w.heap.size = b := Option.some.inj e; omega, fun j p hp => by
        obtain ⟨A', c', h1, h2, h3⟩ := hall j p (List.getElem?_eq_some_iff.1 hp).1 hp
        exact ⟨A', c', h1, h2, fun b e => Nat.le_of_lt (h3 b e)⟩⟩, hbw⟩
      clear hAu hall hbw hul
      go_wp2_with fail
      go_ret
      exact ⟨_, rfl, HFIN.out.1, HFIN.out.2⟩
end Go.Proofs.YtkkembbeejlomaaGreatDoor

namespace Go.Proofs.YtkkembbeejlomaaGreatDoor
open Go.RowKit Go.Shelf Go.Sort Go.Lib

set_option maxRecDepth 100000 in
set_option maxHeartbeats 2000000 in
theorem Grow_nil {w : World} {n : Nat} (h1 : 1 ≤ n) (h2 : n ≤ 1000) :
    Calls Tryz.prog 93 #[.slice none 0 0, .int .i64 n] w fun e w' => ∃ G, n ≤ G ∧ e = .returned (.slice (some ⟨w.heap.size, 0, none⟩) 0 G) ∧ Area w' 2 w.heap.size 0 G [] ∧ Below w.heap.size w w' := by
  obtain ⟨i0, hi0, hz0, hz1, hz2⟩ := info_parts infoR
  have hold : (Builtin.firstCells i0.size 0 (.slice none 0 0)).run Tryz.prog w.drew = .ok ([] : List Value).toArray w.drew := by
    rw [hz1]
    exact run_firstCells_none w.drew 2 0 0 0
  have hap := fun ty => Lib.run_append_grow_zeros w 40 3 ty 42 i0 _ .i64 .i64 Tryz.underlying40 Tryz.underlying3 hi0 hz0 none 0 0 [] hold n (by omega) (by omega) (by omega) (by omega) (by rw [hz2]; omega) (by
    rw [hz2, Nat.zero_add]
    have := Go.Room.nextslicecap_le' (show 0 < n by omega)
    exact Nat.le_trans (Nat.mul_le_mul_right _ this) (by omega))
  rw [Nat.zero_add] at hap
  have hGn := grownCap_ge w n 0 42
  have hGm := grownCap_le_maxLen w n 0 42 (by unfold maxLen; omega)
  generalize grownCap w n 0 42 = G at hap hGn hGm
  obtain ⟨ROW, hROW⟩ : ∃ ROW : Array Value, ROW = ([] : List Value).toArray ++ Builtin.zeroCells (Value.cells (.agg #[.string ⟨#[]⟩, .int .i64 0])) n ++ Builtin.zeroCells (Value.cells (.agg #[.string ⟨#[]⟩, .int .i64 0])) (G - n) := ⟨_, rfl⟩
  rw [← hROW] at hap
  have hRl : ROW.size = G * 2 := by
    rw [hROW, Array.size_append, Array.size_append, size_zeroCells, size_zeroCells, List.size_toArray]
    have e : (Value.cells (.agg #[.string ⟨#[]⟩, .int .i64 0])).size = 2 := rfl
    rw [e, List.length_nil]
    omega
  have hat := alloc_at w.drew (.cells ROW 42)
  have hbA : Below w.heap.size w (w.drew.alloc (.cells ROW 42)) := below_of_drew (below_new _)
  have hA : Area (w.drew.alloc (.cells ROW 42)) 2 w.heap.size 0 G [] := Area.block hat hRl hGm (by simp) (fun j u hj => by simp at hj) (fun u hu => by cases hu)
  have HF := Lib.hid (And.intro hA hbA)
  have HAP := Lib.hid hap
  unfold maxLen at hGm
  have hGI : (n : Int) ≤ (G : Int) := by omega
  have hn0 : (0 : Int) < (n : Int) := by omega
  have hG0 : (G = 0) = False := eq_false (by omega)
  clear hap hA hbA hat hROW hRl hold hi0 hz0 hz1 hz2
  go_enter Tryz.func93, Tryz.ntmps93
  go_wp2_with (at_builtin; refine wpList_app_run rfl _ _ _ _ rfl rfl rfl (HAP.out _) ?_)
  go_ret
  exact ⟨G, hGn, rfl, HF.out.1, HF.out.2⟩
/-- append(s, x...) where there is room. -/
theorem app_roomN {w : World} {ty : TypeId} {g o cap n m : Nat} {l xs : List Value} (h : Area w 2 g o cap l) (hl : l.length = n * 2) {x : Value} (hs : Src Tryz.prog 2 40 x m xs w) (hr : n + m ≤ cap) :
    (Builtin.append_ #[40, 40] ty #[.slice (some ⟨g, o, none⟩) n cap, x]).run Tryz.prog w = .ok (.slice (some ⟨g, o, none⟩) (n + m) cap) (w.setCells g (o + n * 2) xs) ∧ Area (w.setCells g (o + n * 2) xs) 2 g o cap (l ++ xs) ∧ TouchA g o (cap * 2) w (w.setCells g (o + n * 2) xs) := by
  obtain ⟨i0, hi, hzz, hz1, hz2⟩ := info_parts infoR
  have hxl := hs.newsLen
  have hs' : Src Tryz.prog i0.size 40 x m xs w := by rw [hz1]; exact hs
  have hrun := run_append_room_src (P := Tryz.prog) w 40 40 ty 42 i0 Tryz.underlying40 hi g o n cap x m xs hs' hr
    (by rw [hz1]; intro j hj; have := (h.there (n * 2 + j) (by omega)).1; rw [Nat.add_assoc]; exact this) (by rw [hz1]; intro j hj; have := (h.there (n * 2 + j) (by omega)).2; rw [Nat.add_assoc]; exact this)
  rw [hz1] at hrun
  refine ⟨hrun, h.put (by omega) (by rw [List.length_append]; omega) (fun u hu => (List.mem_append.1 hu).elim (h.one u) (hs.one u)) (fun j u h1 h2 hj => ?_) (fun j u h1 hj => ?_), TouchA.setCells _ _ _ _ _ _ (by omega) (by omega)⟩
  · rw [List.getElem?_append_right (by omega), hl] at hj
    exact hj
  · have hjl := (List.getElem?_eq_some_iff.1 hj).1
    rw [List.length_append] at hjl
    rw [List.getElem?_append_left (by omega)] at hj
    exact hj
theorem flat_app {Q : List (List Row)} {i : Nat} {p : List Row} (h : Q[i]? = some p) : (Q.take (i + 1)).flatten = (Q.take i).flatten ++ p := by
  rw [List.take_add_one, h]
  simp
set_option maxRecDepth 100000 in
set_option maxHeartbeats 4000000 in
theorem Concat_any {w : World} {b : Nat} {p q : List Row} {a d : Pl} (hb : w.heap[b]? = some (.cells #[plV a p, plV d q] 40 (0, 0))) (hA : Area w 2 a.g a.o a.cap (pgC p)) (hD : Area w 2 d.g d.o d.cap (pgC q)) (hc1 : p.length ≤ a.cap) (hc2 : d.cap ≤ maxLen ∧ q.length ≤ d.cap) (h1 : 1 ≤ p.length) (h2 : p.length + q.length ≤ 500) :
    Calls Tryz.prog 76 #[.slice (some ⟨b, 0, none⟩) 2 2] w fun e w' => ∃ G, p.length + q.length ≤ G ∧ e = .returned (.slice (some ⟨w.heap.size, 0, none⟩) (p.length + q.length) G) ∧ Area w' 2 w.heap.size 0 G (pgC (p ++ q)) ∧ Below w.heap.size w w' := by
  have HG := Lib.hid (Grow_nil (w := w) (n := p.length + q.length) (by omega) (by omega))
  have hmx := hA.max
  have hmx2 := hD.max
  unfold maxLen at hmx hmx2
  have k0 : w.cell? ⟨b, 0, none⟩ = some (.slice (some ⟨a.g, a.o, none⟩) p.length a.cap) := cell_of hb 0
  have k1 : w.cell? ⟨b, 1, none⟩ = some (.slice (some ⟨d.g, d.o, none⟩) q.length d.cap) := cell_of hb 1
  have HK : Hid (∀ W, Below w.heap.size w W → W.cell? ⟨b, 0, none⟩ = some (.slice (some ⟨a.g, a.o, none⟩) p.length a.cap) ∧ W.cell? ⟨b, 1, none⟩ = some (.slice (some ⟨d.g, d.o, none⟩) q.length d.cap)) := Lib.hid (fun W hW => ⟨(hW.cell (p := ⟨b, 0, none⟩) (World.block_lt_of_cell? _ _ k0)).trans k0, (hW.cell (p := ⟨b, 1, none⟩) (World.block_lt_of_cell? _ _ k1)).trans k1⟩)
  have HA := Lib.hid hA
  have HD := Lib.hid hD
  obtain ⟨n, hn⟩ : ∃ n, p.length = n := ⟨_, rfl⟩
  obtain ⟨m, hm⟩ : ∃ m, q.length = m := ⟨_, rfl⟩
  rw [hn] at k0 HK h1 h2 hc1 HG ⊢
  rw [hm] at k1 HK h2 HG hc2 ⊢
  have HN := Lib.hid hn
  have HM := Lib.hid hm
  have hnI : (n : Int) + (m : Int) ≤ 500 := by omega
  have hnI2 : (n : Int) ≤ 500 := by omega
  clear hA hD hb hn hm
  go_enter Tryz.func76, Tryz.ntmps76
  go_wp2_with fail
  go_loopw [3, 11] (fun nv iv wr => ((iv = .int .i64 0 ∧ nv = .int .i64 0) ∨ (iv = .int .i64 1 ∧ nv = .int .i64 n) ∨ (iv = .int .i64 2 ∧ nv = .int .i64 ((n : Int) + (m : Int)))) ∧ w = wr) (fun _ iv _ => 2 - (intOf iv).toNat)
  case atStart => exact ⟨.inl ⟨rfl, rfl⟩, rfl⟩
  case round =>
    obtain ⟨h | h | h, rfl⟩ := hrel
    · obtain ⟨rfl, rfl⟩ := h
      go_wp2_with fail
      go_roundw
      case rel => exact ⟨.inr (.inl ⟨by go_num, by go_num⟩), trivial⟩
      case measure => simp [intOf]
    · obtain ⟨rfl, rfl⟩ := h
      have hw : IntKind.i64.wrap ((n : Int) + (m : Int)) = (n : Int) + (m : Int) := IntWalk.i64_in _ (by omega)
      have hw0 : ¬ (n : Int) + (m : Int) < 0 := by omega
      go_wp2_with fail
      go_roundw
      case rel => exact ⟨.inr (.inr ⟨by go_num, by go_num⟩), trivial⟩
      case measure => simp [intOf]
    · obtain ⟨rfl, rfl⟩ := h
      go_wp2_with fail
      refine (HG.out).mono ?_
      rintro e w2 ⟨G, hG, rfl, hA0, hb2⟩
      have HA0 := Lib.hid hA0
      have HB2 := Lib.hid hb2
      unfold maxLen at hc2
      have hGm := hA0.max
      unfold maxLen at hGm
      obtain ⟨kk0, kk1⟩ := HK.out _ hb2
      clear hA0 hb2 HG k0 k1
      go_wp2_with fail
      go_loopw [6, 27] (fun nv iv wr => ((iv = .int .i64 0 ∧ nv = .slice (some ⟨w.heap.size, 0, none⟩) 0 G ∧ Area wr 2 w.heap.size 0 G []) ∨ (iv = .int .i64 1 ∧ nv = .slice (some ⟨w.heap.size, 0, none⟩) n G ∧ Area wr 2 w.heap.size 0 G (pgC p)) ∨ (iv = .int .i64 2 ∧ nv = .slice (some ⟨w.heap.size, 0, none⟩) (n + m) G ∧ Area wr 2 w.heap.size 0 G (pgC (p ++ q)))) ∧ Below w.heap.size w wr) (fun _ iv _ => 2 - (intOf iv).toNat)
      case atStart => exact ⟨.inl ⟨rfl, rfl, HA0.out⟩, HB2.out⟩
      case round =>
        obtain ⟨h | h | h, hbw⟩ := hrel
        · obtain ⟨rfl, rfl, hE⟩ := h
          obtain ⟨kk0, kk1⟩ := HK.out _ hbw
          obtain ⟨hrun, hE2, hT⟩ := app_roomN (ty := 40) (n := 0) (m := n) hE rfl ((HA.out.below hbw).src (by rw [pgC_len, HN.out]) a.cap) (by omega)
          rw [Nat.zero_add, List.nil_append, Nat.zero_mul, Nat.add_zero] at *
          have HE : Hid (Area (wr.setCells w.heap.size 0 (pgC p)) 2 w.heap.size 0 G (pgC p) ∧ Below w.heap.size w (wr.setCells w.heap.size 0 (pgC p))) := Lib.hid ⟨hE2, hT.fresh (Nat.le_refl _) hbw⟩
          clear hE hE2 hT hbw
          go_wp2_with (at_builtin; refine wpList_app_run rfl _ _ _ _ rfl rfl rfl hrun ?_)
          go_roundw
          case rel => exact ⟨.inr (.inl ⟨by go_num, rfl, HE.out.1⟩), HE.out.2⟩
          case measure => simp [intOf]
        · obtain ⟨rfl, rfl, hE⟩ := h
          obtain ⟨kk0, kk1⟩ := HK.out _ hbw
          obtain ⟨hrun, hE2, hT⟩ := app_roomN (ty := 40) (n := n) (m := m) hE (by rw [pgC_len, HN.out]) ((HD.out.below hbw).src (by rw [pgC_len, HM.out]) d.cap) (by omega)
          rw [Nat.zero_add] at hrun hE2 hT
          have HE : Hid (Area (wr.setCells w.heap.size (n * 2) (pgC q)) 2 w.heap.size 0 G (pgC (p ++ q)) ∧ Below w.heap.size w (wr.setCells w.heap.size (n * 2) (pgC q))) := Lib.hid ⟨by rw [pgC_append]; exact hE2, hT.fresh (Nat.le_refl _) hbw⟩
          clear hE hE2 hT hbw
          go_wp2_with (at_builtin; refine wpList_app_run rfl _ _ _ _ rfl rfl rfl hrun ?_)
          go_roundw
          case rel => exact ⟨.inr (.inr ⟨by go_num, rfl, HE.out.1⟩), HE.out.2⟩
          case measure => simp [intOf]
        · obtain ⟨rfl, rfl, hE⟩ := h
          have HE := Lib.hid (And.intro hE hbw)
          clear hE hbw
          go_wp2_with fail
          go_ret
          exact ⟨G, hG, rfl, HE.out.1, HE.out.2⟩
end Go.Proofs.YtkkembbeejlomaaGreatDoor
