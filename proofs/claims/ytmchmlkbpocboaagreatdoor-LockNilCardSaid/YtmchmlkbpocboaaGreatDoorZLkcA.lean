/- lock: slices.AppendSeq of a map's keys behind a row of ints. lock: Who. -/
import Derived.Test.YtmchmlkbpocboaaGreatDoorZLkbD
import Derived.RangeFuncFrom
import Derived.Shelf.SlIterI.Stops
import Derived.Shelf.SlIterI.Collect
set_option linter.unusedSimpArgs false
set_option linter.unusedVariables false
set_option linter.unnecessarySimpa false
namespace Go.Proofs.YtmchmlkbpocboaaGreatDoor
open Go.RowKit Go.Sort Go.Shelf Go.Lib Go.Maps
attribute [local go_sem] Oper.semAt_some

theorem wpListIn_app_run {F : Fence} {n : Nat} {P : Program} {w w' : World} {ops : Array Oper} {rest : List Oper} {o : Oper} {a : Act} {Q : Exit → Act → World → Prop} (hg : o.guard = none) (s x : Operand) (T tx : TypeId) (ho : o.op = .call { callee := .builtin .append, args := #[s, x], argTypes := #[T, tx] }) {u v v' : Value} (hs : a.eval s = u) (hx : a.eval x = v) (hrun : (Builtin.append_ #[T, tx] o.type #[u, v]).run P w = .ok v' w') (hK : wpListIn F n P ops Q rest (a.put o.dst v') w') : wpListIn F n P ops Q (o :: rest) a w :=
  wpListIn_plain hg fun K hK' => by
    unfold Oper.wpIn
    refine ⟨by simp [Oper.about, ho, resolve, Target.leads, Sem.run_pure], ?_⟩
    rw [Oper.semAt_plain F _ _ (by rw [ho]; intro c hc'; cases hc')]
    simp [execOp, ho, resolve, invoke, builtin, hs, hx, hrun, Result.andThen]
    exact hK' _ _ hK
/-- A row of ints whose block, if there is one, is cells. -/
structure RowN (w : World) (v : Value) (l : List Int) : Prop where
  row : RowIs w 1 v l.length (ints l)
  ok : v = .slice none 0 0 ∨ l ≠ []
theorem RowN.cells {w : World} {v : Value} {l : List Int} (h : RowN w v l) : ∀ g, v.ownBlock = some g → ∃ o : Obj, w.heap[g]? = some o ∧ o.isCells = true := by
  intro g hg
  rcases h.ok with e | e
  · rw [e] at hg; cases hg
  · rcases h.row with ⟨e1, _, e2⟩ | ⟨g', cap, e1, h1, h2, h3⟩
    · rw [e1] at hg; cases hg
    · rw [e1] at hg
      cases hg
      cases l with
      | nil => exact absurd rfl e
      | cons x l => exact cells_of_cell (h3.holds 0 (.int .i64 x) rfl)
theorem RowN.grown {w w' : World} {v : Value} {l : List Int} {row : Option Nat} (h : RowN w v l) (hg : w.grownBy w' row) (hr : ∀ r, row = some r → ∃ o : Obj, w.heap[r]? = some o ∧ o.isCells = false) : RowN w' v l :=
  ⟨h.row.keep hg.size (fun g hgo => hg.block g (h.row.lt g hgo) (fun e => by
    obtain ⟨o, h1, h2⟩ := h.cells g hgo
    obtain ⟨o', h3, h4⟩ := hr g e.symm
    rw [h1] at h3
    cases h3
    rw [h2] at h4
    cases h4)), h.ok⟩
/-- Between two rounds: the box B holds a row of one's own. -/
def SeqAt (w0 : World) (v0 : Value) (B : Nat) (l pre : List Int) (W : World) : Prop :=
  Touch (fun k => v0.ownBlock = some k) w0 W ∧ ∃ v, W.heap[B]? = some (.cells #[v] 38 (0, 0)) ∧ RowN W v (l ++ pre) ∧ ∀ g, v.ownBlock = some g → v0.ownBlock = some g ∨ B < g
theorem SeqAt.own {w0 : World} {v0 : Value} {B : Nat} {l : List Int} (hB : B = w0.heap.size) : OwnFrom (B + 1) (SeqAt w0 v0 B l) := by
  rintro s W W' row ⟨ht, v, hb, hr, ho⟩ hg hrow
  refine ⟨ht.grown hg (fun k e hk => ?_), v, (hg.block B (Array.getElem?_eq_some_iff.1 hb).1 (fun e => ?_)).trans hb, hr.grown hg (fun r e => (hrow r e).2), ho⟩
  · have := (hrow k e).1; omega
  · have := (hrow B e.symm).1; omega
set_option maxRecDepth 100000 in
set_option maxHeartbeats 4000000 in
theorem iapp_any {w w0 : World} {gf N : Nat} {lb : Array Value} {S Sp : List Int → Prop} (eg : ∀ args w, (callFunc gf args).run Tryz.prog w = .ok (.enter gf args) w)
    (hseq : SeqStops Fence.wide 7 Tryz.prog gf lb encZ S Sp N w0) (hw : Below w0.heap.size w0 w) {v : Value} {l : List Int} (hr : RowN w v l) (hl : l.length + N ≤ 1000000) :
    Calls Tryz.prog 35 #[v, .func (.func gf) #[] lb] w fun e w' => ∃ v' ks, e = .returned v' ∧ S ks ∧ RowN w' v' (l ++ ks) ∧ Touch (fun k => v.ownBlock = some k) w w' ∧ ∀ g, v'.ownBlock = some g → v.ownBlock = some g ∨ w.heap.size ≤ g := by
  refine (callsIn_wide (n := 9)).1 ?_
  refine callsIn_of_wp_marks Tryz.func35 rfl trivial ?_ rfl
  simp only [Tryz.ntmps35, List.size_toArray, List.length_cons, List.length_nil, Nat.reduceAdd, Nat.reduceSub, Array.replicate_succ, Array.replicate_zero, List.push_toArray, List.append_toArray, List.nil_append, List.cons_append]
  refine wpIn_wide.2 ?_
  obtain ⟨A0, c0, hv0, _⟩ := id hr.row.form
  obtain ⟨n0, hn0⟩ : ∃ n0, l.length = n0 := ⟨_, rfl⟩
  rw [hn0] at hv0
  have HR := Lib.hid hr
  have HV := Lib.hid hv0
  rw [hv0]
  clear hr hn0
  go_wp2_with fail
  rw [← hv0]
  clear hv0
  have hbA := below_new (w := w) (.cells #[v] 38)
  refine (wpIn_wide (n := 8)).1 ?_
  refine wpIn_rangeFunc_ownF rfl (by omega) (gf := gf) (lb := lb) rfl trivial eg hseq walksK_t walksK_b (hw.trans (hbA.mono hw.size)) (fun _ => rfl)
    (fun pre W => SeqAt w v w.heap.size l pre W) (fun _ _ _ => False) (by rw [asz]; exact SeqAt.own rfl) ?hIx ?h0
    (fun x => { tmps := #[v, .func (.func gf) #[] lb, .pointer (some ⟨w.heap.size, 0, none⟩), undef, .slice none 0 0, .int .i64 x, .func (.func gf) #[] lb, .int .i64 x, undef, undef, undef, undef, undef], defers := [] })
    ?assign ?body ?done ?stop
  case hIx => intro c s W W' row h; exact h.elim
  case h0 =>
    refine ⟨Touch.of_below hbA, v, alloc_at w _, ⟨by rw [List.append_nil]; exact HR.out.row.below hbA, by rw [List.append_nil]; exact HR.out.ok⟩, fun g e => .inl e⟩
  case assign =>
    intro l' x W K hK
    gi_wp2
    exact hK
  case body =>
    rintro l' pre x W ⟨ht, v1, hB, hrn, ho⟩ hlen
    have hsz : w.heap.size < W.heap.size := (Array.getElem?_eq_some_iff.1 hB).1
    have hcl : (l ++ pre).length ≤ 1000000 := by rw [List.length_append]; omega
    have HE := Lib.hid (List.append_assoc l pre [x])
    have hcells := hrn.cells
    have hr := hrn.row
    have hlt0 := HR.out.row.lt
    generalize l ++ pre = m at *
    obtain ⟨A, c, rfl, hc1, hc2, _⟩ := id hr.form
    obtain ⟨v', W', hrun, hv', ht2, ho'⟩ := app_int x 38 hr (by omega)
    obtain ⟨A', c', rfl, _⟩ := id hv'.form
    have hnB : ∀ g, (Value.slice A m.length c).ownBlock = some g → g ≠ w.heap.size := fun g hg e => by
      rcases ho g hg with h | h
      · have := hlt0 g h; omega
      · omega
    have hB2 : W'.heap[w.heap.size]? = some (.cells #[.slice A m.length c] 38 (0, 0)) := (ht2.block _ hsz (fun e => hnB _ e rfl)).trans hB
    have q0 := cell_of hB 0
    have q2 := cell_of hB2 0
    have f2 := free0 hB2 0
    have s2 := set_at hB2 0 (.slice A' (m ++ [x]).length c')
    simp only [Array.setIfInBounds, List.size_toArray, List.length_cons, List.length_nil, Nat.zero_add, Nat.lt_add_one, dite_true, ↓reduceDIte] at s2
    have HS2 := Lib.hid s2
    have hnew : ∀ g, (Value.slice A' (m ++ [x]).length c').ownBlock = some g → v.ownBlock = some g ∨ w.heap.size < g := fun g hg => by
      rcases ho' g hg with h | h
      · exact ho g h
      · exact .inr (by omega)
    have HNEW := Lib.hid hnew
    have hne2 : ∀ g, (Value.slice A' (m ++ [x]).length c').ownBlock = some g → g ≠ w.heap.size := fun g hg e => by
      rcases hnew g hg with h | h
      · have := hlt0 g h; omega
      · omega
    have HT3 : Hid (Touch (fun k => v.ownBlock = some k) w (W'.setCell ⟨w.heap.size, 0, none⟩ (.slice A' (m ++ [x]).length c'))) := Lib.hid ((ht.trans ht2 (fun i hi hk => (ho i hk).elim id (fun e => by omega))).setCell ⟨w.heap.size, 0, none⟩ (fun e => absurd e (Nat.lt_irrefl _)) _)
    have HR3 : Hid (RowN (W'.setCell ⟨w.heap.size, 0, none⟩ (.slice A' (m ++ [x]).length c')) (.slice A' (m ++ [x]).length c') (m ++ [x])) := Lib.hid ⟨hv'.keep (by simp [World.setCell]) (fun g hg => Below.heap_setCell _ _ _ _ (hne2 g hg)), .inr (by simp)⟩
    have HKO : Hid (KeepsOthers W (W'.setCell ⟨w.heap.size, 0, none⟩ (.slice A' (m ++ [x]).length c'))) := Lib.hid (KeepsOthers.trans ⟨ht2.size, fun k o hk hko => (ht2.block k (Array.getElem?_eq_some_iff.1 hk).1 (fun e => by
      obtain ⟨o', h1, h2⟩ := hcells k e
      rw [h1] at hk
      cases hk
      rw [h2] at hko
      cases hko)).trans hk⟩ (KeepsOthers.setCell _ _ _))
    obtain ⟨ml, hml⟩ : ∃ ml, ml = (m ++ [x]).length := ⟨_, rfl⟩
    have HML := Lib.hid hml
    rw [← hml] at HS2 HNEW HT3 HR3 HKO hrun
    clear hml ht hB hrn hr ho hv' ht2 ho' hnB hB2 hnew hne2 s2 hcl hc1 hc2 hlen hsz hcells hlt0
    gi_wp2_with (gi_at_builtin; refine wpListIn_app_run rfl _ _ _ _ rfl rfl rfl hrun ?_)
    exact ⟨HKO.out, HKO.out.walks, HT3.out, _, HS2.out, by rw [← HE.out]; exact HR3.out, HNEW.out⟩
  case done =>
    rintro D ks W hD hks ⟨ht, v', hB, hrn, ho⟩ hK
    rw [asz] at hD
    have q0 := cell_of hB 0
    have f0 := free0 hB 0
    simp at q0
    have HK := Lib.hid hK
    have HT := Lib.hid ht
    have HRN := Lib.hid hrn
    have HO := Lib.hid ho
    have HKS := Lib.hid hks
    clear hks hK ht hrn ho hB
    go_wp2_with fail
    refine ⟨by simp, .inl ⟨_, _, rfl, run_takeDeferred HK.out, ?_⟩⟩
    refine ⟨v', by simp [results, Tryz.results35, go_sem], ?_⟩
    rw [← HV.out]
    exact ⟨v', ks, rfl, HKS.out, HRN.out.grown (grownBy_putObj' _ D _) (fun r e => by cases e; exact ⟨_, HK.out, rfl⟩), HT.out.grown (grownBy_putObj' _ D _) (fun k e hk => by cases e; omega), fun g hg => (HO.out g hg).imp id (fun h => Nat.le_of_lt h)⟩
  case stop => rintro D c pre W _ _ h; exact h.elim
end Go.Proofs.YtmchmlkbpocboaaGreatDoor

namespace Go.Proofs.YtmchmlkbpocboaaGreatDoor
open Go.RowKit Go.Sort Go.Shelf Go.Lib Go.Maps

theorem row_own {w : World} {base : Nat} {e : TypeId} {z : Nat} {v : Value} {n : Nat} {xs : List Value} (h : w.ownsRow base e z v n xs) : RowIs w z v n xs ∧ ∀ g, v.ownBlock = some g → base ≤ g := by
  obtain ⟨h0, ⟨rfl, rfl⟩ | ⟨g, cap, cur, rfl, hg, hh, hn, hc, hs, ht⟩⟩ := h
  · exact ⟨.inl ⟨rfl, rfl, List.eq_nil_of_length_eq_zero (by simpa using h0)⟩, fun g h => by cases h⟩
  · refine ⟨.inr ⟨g, cap, rfl, h0, hn, heap_lt hh, by rw [h0]; exact Nat.mul_le_mul_right _ hn, hc, fun j b hj => ?_, fun j hj => ⟨?_, free0 hh j⟩⟩, fun g' h => by cases h; exact hg⟩
    · rw [cell_of hh]
      rw [← ht, List.getElem?_take] at hj
      split at hj
      · simpa using hj
      · cases hj
    · rw [cell_of hh, Array.getElem?_eq_getElem (by omega)]; rfl
def anyR : Value → Option (DataW Unit × List MemPlace) := fun _ => some (.nil, [])
noncomputable def mapD (M : List MapEntry) : DataW Unit := .map ((M.map (Go.WideElems.rg Tryz.prog 3 anyR)).foldr DataW.insert [])
theorem map_owns {w : World} {m c : Nat} {M : List MapEntry} (h : MapIs Tryz.prog 3 w m M c) (hL : M.length ≤ maxLen) : w.ownsMap Tryz.prog 3 anyR m M.length (mapD M) := by
  refine ⟨M.toArray, c, h.at_, ⟨by simpa using hL, ⟨by simpa using h.born, by simpa using h.apart, by simpa using h.one⟩, fun x hx => ?_⟩, by simp, by unfold mapD; simp⟩
  obtain ⟨l, hl⟩ := h.keys x (by simpa using hx)
  exact ⟨_, by unfold Go.WideElems.rd anyR; rw [hl]; rfl⟩
theorem map_keys {M : List MapEntry} {l : List Int} (hM : M.map (·.key) = l.map (Value.int .i64)) (hr : ∀ x ∈ l, InR64 x) : (intKeys (mapD M)).Perm l := by
  have h1 := (Go.WideShapes.sorted_perm (M.map (Go.WideElems.rg Tryz.prog 3 anyR))).map (fun p : Lit × DataW Unit => Go.intOf p.1)
  refine h1.trans ?_
  rw [List.map_map]
  have : M.map ((fun p : Lit × DataW Unit => Go.intOf p.1) ∘ Go.WideElems.rg Tryz.prog 3 anyR) = (M.map (·.key)).map (fun k => Go.intOf ((keyOf Tryz.prog 3 k).getD (.int .i64 0))) := by
    rw [List.map_map]
    refine List.map_congr_left fun e he => ?_
    have hk : ∃ x ∈ l, e.key = .int .i64 x := by
      have : e.key ∈ M.map (·.key) := List.mem_map.2 ⟨e, he, rfl⟩
      rw [hM] at this
      obtain ⟨x, hx, e2⟩ := List.mem_map.1 this
      exact ⟨x, hx, e2.symm⟩
    obtain ⟨x, hx, e1⟩ := hk
    have := keyI (hr x hx)
    simp only [Function.comp, Go.WideElems.rg, Go.WideElems.rd, anyR, e1, this]
    rfl
  rw [this, hM, List.map_map]
  refine List.Perm.of_eq ?_
  have : l.map ((fun k => Go.intOf ((keyOf Tryz.prog 3 k).getD (.int .i64 0))) ∘ Value.int .i64) = l.map id := List.map_congr_left fun x hx => by
    simp only [Function.comp, keyI (hr x hx)]
    rfl
  rw [this, List.map_id]
theorem keysW_any (mo : Option Nat) (W : World) : Calls Tryz.prog 34 #[.map mo] W fun e w' => e = .returned (.func (.func 60) #[] #[.pointer (some ⟨W.heap.size, 0, none⟩)]) ∧ w' = W.alloc (.cells #[.map mo] 62) :=
  callsIn_wide.1 (AnyZI.keys_in Tryz.keysW Fence.wide 5 trivial rfl mo W)
theorem keysH_any (mo : Option Nat) (W : World) : Calls Tryz.prog 36 #[.map mo] W fun e w' => e = .returned (.func (.func 61) #[] #[.pointer (some ⟨W.heap.size, 0, none⟩)]) ∧ w' = W.alloc (.cells #[.map mo] 80) :=
  callsIn_wide.1 (AnyZI.keys_in Tryz.keysH Fence.wide 5 trivial rfl mo W)
theorem collW_any {w : World} {bm m c : Nat} {M : List MapEntry} {l : List Int} (h : MapIs Tryz.prog 3 w m M c) (hM : M.map (·.key) = l.map (Value.int .i64)) (hr : ∀ x ∈ l, InR64 x) (hl : l.length ≤ 100000) (hbm : bm < w.heap.size) (hc : w.cell? ⟨bm, 0, none⟩ = some (.map (some m))) : Calls Tryz.prog 33 #[.func (.func 60) #[] #[.pointer (some ⟨bm, 0, none⟩)]] w fun e w' => ∃ v ks, e = .returned v ∧ ks.Perm l ∧ RowN w' v ks ∧ (∀ g, v.ownBlock = some g → w.heap.size ≤ g) ∧ Below w.heap.size w w' := by
  have hlen : M.length = l.length := by have := congrArg List.length hM; simpa using this
  have hown := map_owns h (by unfold maxLen; omega)
  have hsz : Maps.size (mapD M) ≤ 100000 := Nat.le_trans hown.size_le (by omega)
  have hseq : SeqGives Fence.wide 2 Tryz.prog 60 #[.pointer (some ⟨bm, 0, none⟩)] encZ (fun ss => ss.Perm (intKeys (mapD M))) (Maps.size (mapD M)) w :=
    AnyZI.keys_gives (ρ := Tryz.keysW_ren) { Tryz.keysW with } Fence.wide _ trivial rfl (by omega) bm m _ _ _ hbm hc hown
  have cS := AnyZI.collect_in Tryz.collA Fence.wide 4 trivial trivial rfl (by omega) 60 #[.pointer (some ⟨bm, 0, none⟩)] trivial (enters_of Tryz.func60 (by kernel_rfl) rfl) _ _ (by unfold maxLen; omega) (by omega) _ hseq
  refine (callsIn_wide.1 cS).mono ?_
  rintro e w' ⟨v, ss, rfl, hp, hrow, hnil, hb⟩
  obtain ⟨h1, h2⟩ := row_own hrow
  refine ⟨v, ss, rfl, hp.trans (map_keys hM hr), ⟨h1, ?_⟩, h2, hb⟩
  by_cases e : ss = []
  · exact .inl (hnil.2 e)
  · exact .inr e
theorem appH_any {w : World} {bm m : Nat} {l : List Int} {v : Value} {ks : List Int} (h : SetI w m l) (hr : RowN w v ks) (hl : l.length + ks.length ≤ 900000) (hbm : bm < w.heap.size) (hc : w.cell? ⟨bm, 0, none⟩ = some (.map (some m))) : Calls Tryz.prog 35 #[v, .func (.func 61) #[] #[.pointer (some ⟨bm, 0, none⟩)]] w fun e w' => ∃ v' ms, e = .returned v' ∧ ms.Perm l ∧ RowN w' v' (ks ++ ms) ∧ Touch (fun k => v.ownBlock = some k) w w' ∧ ∀ g, v'.ownBlock = some g → v.ownBlock = some g ∨ w.heap.size ≤ g := by
  obtain ⟨M, c, hm, _, hM, hI⟩ := h
  have hlen : M.length = l.length := by have := congrArg List.length hM; simpa using this
  have hown := map_owns hm (by unfold maxLen; omega)
  have hsz : Maps.size (mapD M) ≤ l.length := Nat.le_trans hown.size_le (by omega)
  have hseq : SeqStops Fence.wide 7 Tryz.prog 61 #[.pointer (some ⟨bm, 0, none⟩)] encZ (fun ss => ss.Perm (intKeys (mapD M)) ∧ ∀ x, x ∈ ss ↔ has (mapD M) (.int .i64 x) = true) (fun pre => pre.Nodup ∧ ∀ x ∈ pre, has (mapD M) (.int .i64 x) = true) (Maps.size (mapD M)) w :=
    AnyZI.keys_stops (ρ := Tryz.keysH_ren) { Tryz.keysH with } Fence.wide _ trivial rfl (by omega) bm m _ _ _ hbm hc hown
  refine (iapp_any (enters_of Tryz.func61 (by kernel_rfl) rfl) hseq (Below.refl _ _) hr (by omega)).mono ?_
  rintro e w' ⟨v', ms, rfl, hp, h1, h2, h3⟩
  exact ⟨v', ms, rfl, hp.1.trans (map_keys hM hI), h1, h2, h3⟩
/-- Who is told of. -/
def WhoT (T : Tb) (x : Int) : Prop := (∃ e ∈ T.waits, e.1 = x) ∨ ∃ kl ∈ T.lanes, x ∈ kl.2.held
def WhoP (WT : List Wt) (P : List Le) (ks : List Int) : Prop := (∀ x, x ∈ ks ↔ (∃ e ∈ WT, e.1 = x) ∨ ∃ y ∈ P, x ∈ y.l.held) ∧ ks.length ≤ 1000 + P.length * 500
def WhoQ (w : World) (T : Tb) (e : Ending) (w' : World) : Prop := ∃ v ks, e = .returned v ∧ RowIs w' 1 v ks.length (ints ks) ∧ (∀ g, v.ownBlock = some g → w.heap.size ≤ g) ∧ Rising ks ∧ (∀ x, x ∈ ks ↔ WhoT T x) ∧ Below w.heap.size w w'
set_option maxRecDepth 100000 in
set_option maxHeartbeats 4000000 in
theorem Who_any {w : World} {tb gl gw : Nat} {L : List Le} {WT : List Wt} {ro : Nat → Nat} (h : TbAt w tb gl gw L WT ro) (hf : Few 500 L WT) : Calls Tryz.prog 15 #[.pointer (some ⟨tb, 0, none⟩)] w (WhoQ w (tbOf L WT)) := by
  have t1 : w.cell? ⟨tb, 1, none⟩ = some (.map (some gw)) := cell_of h.head 1
  obtain ⟨MW, cW, hmw, hmp⟩ := h.waits
  obtain ⟨M, c, hm, hmL⟩ := h.lanes
  have HT := Lib.hid h
  have HF := Lib.hid hf
  have HK := Lib.hid (keysW_any (some gw) w)
  have hb1 := below_new (w := w) (.cells #[.map (some gw)] 62)
  have HCO := Lib.hid (collW_any (l := WT.map (·.1)) (bm := w.heap.size) (hmw.keep (hb1.block _ hmw.lt)) (by
    have := congrArg (List.map Prod.fst) hmp
    rw [List.map_map, List.map_map] at this
    rw [List.map_map]
    exact this) (fun x hx => by obtain ⟨e, he, rfl⟩ := List.mem_map.1 hx; exact h.inW e he) (by rw [List.length_map]; have := hf.2.1; omega) (by rw [asz]; omega) (cell_of (alloc_at w _) 0))
  have HM := Lib.hid hm
  have HML := Lib.hid hmL
  have HB1 := Lib.hid hb1
  clear h hf hmw hmp hm hmL hb1
  go_enter Tryz.func15, Tryz.ntmps15
  go_wp2_with fail
  refine (HK.out).mono ?_
  rintro e w1 ⟨rfl, rfl⟩
  go_wp2_with fail
  refine (HCO.out).mono ?_
  rintro e w1 ⟨v1, ks1, rfl, hp1, hr1, ho1, hb2⟩
  have hbw := HB1.out.trans (hb2.mono HB1.out.size)
  have HW1 := Lib.hid hbw
  have HR1 := Lib.hid (And.intro hp1 (And.intro hr1 fun g hg => by have := ho1 g hg; rw [asz] at this; exact Nat.le_of_lt this : _))
  have t0 : w1.cell? ⟨tb, 0, none⟩ = some (.map (some gl)) := cell_of (HT.out.below hbw).head 0
  have hit1 : Hid (WhoP WT [] ks1) := Lib.hid (by
    refine ⟨fun x => ?_, ?_⟩
    · rw [hp1.mem_iff, List.mem_map]
      simp
    · have := hp1.length_eq
      rw [List.length_map] at this
      have := HF.out.2.1
      simp; omega)
  obtain ⟨A1, c1, rfl, _⟩ := id hr1.row.form
  clear hp1 hr1 ho1 hb2 t1 hbw
  go_wp2_with (at_range; refine wpList_map_start _ rfl _ 61 rfl Tryz.underlying61 (HM.out.keep (HW1.out.block _ HM.out.lt)) rfl ?_; intro w2 hit2 hbI hz2)
  have HI2 := Lib.hid hit2
  have HB2 := Lib.hid (HW1.out.trans (hbI.mono HW1.out.size))
  have HR2 := Lib.hid (And.intro (⟨HR1.out.2.1.row.below hbI, HR1.out.2.1.ok⟩ : RowN w2 (.slice A1 ks1.length c1) ks1) (And.intro HR1.out.2.2 HR1.out.2.1.row.lt))
  have HGL : Hid (gl < w.heap.size) := Lib.hid HM.out.lt
  have HIT := Lib.hid HW1.out.size
  clear hit2 hbI hz2 t0
  generalize hit : w1.heap.size = it at *
  have HITE := Lib.hid hit
  clear hit
  try go_frame
  go_loopg [3] (left M #[]) (fun g s wr => ∃ (seen : Array Nat) (P : List Le) (A : Option Addr) (c' : Nat) (E : List Int), g = left M seen ∧ s = .slice A E.length c' ∧ RowN wr (.slice A E.length c') E ∧ (∀ g, (Value.slice A E.length c').ownBlock = some g → w.heap.size ≤ g ∧ g ≠ it) ∧ Came M L seen P ∧ WhoP WT P E ∧ IterAt wr it (some gl) c seen ∧ Below w.heap.size w wr)
  case atStart => exact ⟨#[], [], A1, c1, ks1, rfl, rfl, HR2.out.1, (fun g e => ⟨HR2.out.2.1 g e, fun q => by have := HR2.out.2.2 g e; omega⟩), Came.start M L, hit1.out, HI2.out, HB2.out⟩
  case round =>
    obtain ⟨seen, P, A3, c3, E, rfl, rfl, hrw, hro, hcame, hed, hit3, hb3⟩ := hrel
    obtain ⟨wi, rfl⟩ : ∃ wi, wi = wr := ⟨_, rfl⟩
    have HR3 := Lib.hid (And.intro hrw hro)
    have HC3 := Lib.hid hcame
    have HED := Lib.hid hed
    have HI3 := Lib.hid hit3
    have HB3 := Lib.hid hb3
    have hPL : P.length ≤ 500 := by have := hcame.sub.1; have := HF.out.1; omega
    have HPL := Lib.hid hPL
    have hEL : E.length ≤ 1000 + 500 * 500 := Nat.le_trans hed.2 (Nat.add_le_add_left (Nat.mul_le_mul_right _ hPL) _)
    have HEL := Lib.hid hEL
    clear hrw hro hcame hed hit3 hb3 HI2 HB2 HR2 hPL hEL
    go_wp2_with (at_next; refine wpList_map_step _ rfl _ rfl (HM.out.keep (HB3.out.block _ HGL.out)) HI3.out (by have := HGL.out; have := HIT.out; omega) rfl ?_ ?_)
    · intro hall
      have hp := HC3.out.done (pair_len HML.out) hall
      have HPP := Lib.hid hp
      have HSO := Lib.hid (sortI_row HR3.out.1.row (by have := HEL.out; omega))
      clear hall hp
      go_wp2_with fail
      refine (HSO.out).mono ?_
      rintro e w4 ⟨rfl, hr4, ht4⟩
      have hsl := sortedI_len E
      rw [← hsl] at hr4 ⊢
      have HCO := Lib.hid (compI_row (l := sortedI E) hr4 (by rw [hsl]; have := HEL.out; omega))
      have HT4 := Lib.hid ht4
      have HSL := Lib.hid hsl
      clear hr4 ht4 hsl
      go_wp2_with fail
      refine (HCO.out).mono ?_
      rintro e w5 ⟨v5, rfl, ho5, hr5, ht5⟩
      have HF5 : Hid (WhoQ w (tbOf L WT) (.returned v5) w5) := Lib.hid (by
        have hown : ∀ g, (Value.slice A3 (sortedI E).length c3).ownBlock = some g → w.heap.size ≤ g := fun g hg => by rw [HSL.out] at hg; exact (HR3.out.2 g hg).1
        obtain ⟨hri, hme⟩ := compact_rise (sortedI E) (sortedI_le E)
        refine ⟨v5, _, rfl, hr5, fun g hg => hown g (ho5 ▸ hg), hri, fun x => ?_, ?_⟩
        · rw [hme x, (sortedI_perm E).mem_iff, HED.out.1 x]
          unfold WhoT tbOf
          constructor
          · rintro (h1 | ⟨y, hy, h1⟩)
            · exact .inl h1
            · exact .inr ⟨(y.key, y.l), List.mem_map.2 ⟨y, HPP.out.subset hy, rfl⟩, h1⟩
          · rintro (h1 | ⟨kl, hkl, h1⟩)
            · exact .inl h1
            · obtain ⟨y, hy, rfl⟩ := List.mem_map.1 hkl
              exact .inr ⟨y, HPP.out.symm.subset hy, h1⟩
        · have h1 := HB3.out
          have h2 := HT4.out
          refine (h1.trans (h2.below (fun i hi => ?_) h1.size)).trans (ht5.below (fun i hi => hown i hi) (Nat.le_trans h1.size h2.size))
          exact (HR3.out.2 i hi).1)
      clear hr5 ho5 ht5
      go_wp2_with fail
      refine bodyPost_ret (v := v5) (by simp [results, Tryz.results15, go_sem]) rfl HF5.out
    · intro m hmm hs w4 hit4 ht4 hz4 hen
      obtain ⟨j, x, hj, hx, hmk, hmv⟩ := pair_idx HML.out hmm
      have HST := Lib.hid (HC3.out.step HM.out.apart hj hx hs)
      have hb4 : Below w.heap.size w w4 := HB3.out.trans (ht4.below (fun i hi => by have := HIT.out; omega) HB3.out.size)
      have HR4 := Lib.hid (And.intro (⟨HR3.out.1.row.keep ht4.size (fun g hg => ht4.block g (HR3.out.1.row.lt g hg) (HR3.out.2 g hg).2), HR3.out.1.ok⟩ : RowN w4 (.slice A3 E.length c3) E) HR3.out.2)
      have HI4 := Lib.hid hit4
      have HB4 := Lib.hid hb4
      have hxm := List.mem_of_getElem? hx
      have hln := (HT.out.ln x hxm).below hb4
      have HLN := Lib.hid hln
      have HFX := Lib.hid (HF.out.2.2 x hxm)
      have r0 : w4.cell? ⟨x.b, 0, none⟩ = some (.map (some x.gh)) := cell_of hln.head 0
      have hb5 := below_new (w := w4) (.cells #[.map (some x.gh)] 80)
      have HKH := Lib.hid (keysH_any (some x.gh) w4)
      have HAP := Lib.hid (appH_any (bm := w4.heap.size) (hln.below hb5).held (⟨HR4.out.1.row.below hb5, HR4.out.1.ok⟩ : RowN (w4.alloc (.cells #[.map (some x.gh)] 80)) (.slice A3 E.length c3) E) (by have := HFX.out; have := HEL.out; omega) (by rw [asz]; omega) (cell_of (alloc_at w4 _) 0))
      have HB5 := Lib.hid hb5
      rw [hmv] at hen
      obtain ⟨XV, hXV⟩ : ∃ XV, m.key = XV := ⟨_, rfl⟩
      unfold Le.ptr at hen
      clear hmm hs hit4 ht4 hz4 hj hx hb4 hxm hln hb5 hmk
      rw [hmv]
      unfold Le.ptr
      rw [hXV] at hen
      rw [hXV]
      clear hXV hmv
      go_wp2_with fail
      refine (HKH.out).mono ?_
      rintro e w5 ⟨rfl, rfl⟩
      clear hen r0
      go_wp2_with fail
      refine (HAP.out).mono ?_
      rintro e w6 ⟨v6, ms, rfl, hp6, hr6, ht6, ho6⟩
      obtain ⟨A6, c6, rfl, _⟩ := id hr6.row.form
      have hi5 : it < (w4.alloc (.cells #[.map (some x.gh)] 80)).heap.size := by rw [asz]; have := HI4.out.lt; omega
      have HI6 := Lib.hid (IterAt.keep _ (IterAt.keep _ HI4.out (HB5.out.block it HI4.out.lt)) (ht6.block it hi5 (fun e => (HR4.out.2 _ e).2 rfl)))
      have HB6 := Lib.hid ((HB4.out.trans (HB5.out.mono HB4.out.size)).trans (ht6.below (fun i hi => (HR4.out.2 _ hi).1) (Nat.le_trans HB4.out.size HB5.out.size)))
      have HR6 : Hid (RowN w6 (.slice A6 (E ++ ms).length c6) (E ++ ms) ∧ ∀ g, (Value.slice A6 (E ++ ms).length c6).ownBlock = some g → w.heap.size ≤ g ∧ g ≠ it) := Lib.hid ⟨hr6, fun g hg => (ho6 g hg).elim (HR4.out.2 g) (fun e => by have := HI4.out.lt; have := HB4.out.size; rw [asz] at e; omega)⟩
      have HEP : Hid (WhoP WT (P ++ [x]) (E ++ ms)) := Lib.hid (by
        refine ⟨fun e => ?_, ?_⟩
        · rw [List.mem_append, HED.out.1, hp6.mem_iff]
          constructor
          · rintro ((h1 | ⟨y, hy, h1⟩) | h1)
            · exact .inl h1
            · exact .inr ⟨y, List.mem_append_left _ hy, h1⟩
            · exact .inr ⟨x, by simp, h1⟩
          · rintro (h1 | ⟨y, hy, h1⟩)
            · exact .inl (.inl h1)
            · rcases List.mem_append.1 hy with hy | hy
              · exact .inl (.inr ⟨y, hy, h1⟩)
              · rw [List.mem_singleton.1 hy] at h1; exact .inr h1
        · have h1 := HED.out.2
          have h2 := hp6.length_eq
          have h3 := HFX.out
          rw [List.length_append, List.length_append, List.length_singleton, Nat.add_mul]
          omega)
      clear hp6 hr6 ht6 ho6 hi5
      go_wp2_with fail
      go_roundg (left M (seen.push m.born))
      case measure => have := HST.out.2; omega
      case rel => exact ⟨seen.push m.born, P ++ [x], A6, c6, E ++ ms, rfl, by simp, HR6.out.1, HR6.out.2, HST.out.1, HEP.out, HI6.out, HB6.out⟩
end Go.Proofs.YtmchmlkbpocboaaGreatDoor
