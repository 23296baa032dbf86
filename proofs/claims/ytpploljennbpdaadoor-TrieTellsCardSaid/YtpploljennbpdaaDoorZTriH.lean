/- trie: slices.AppendSeq and Collect of a sequence of nodes; Above. -/
import Derived.Test.YtpploljennbpdaaDoorZTriG
set_option linter.unusedSimpArgs false
set_option linter.unusedVariables false
set_option linter.unnecessarySimpa false
namespace Go.Proofs.YtpploljennbpdaaDoor
open Go.RowKit Go.Shelf
attribute [local go_sem] Oper.semAt_some

theorem info3 : (Tryd.prog.info? 3).map (fun i => (i.zero, i.size, i.bytes)) = some (some (.int .i64 0), 1, 8) := by kernel_rfl
theorem one_new (W : World) (n : Nat) (hn : W.heap.size = n) (t : TypeId) (c0 : Value) : ∀ (j : Nat) (u : Value), [c0][j]? = some u → (W.alloc (.cells #[c0] t)).cell? ((⟨n, 0, none⟩ : Addr).add j) = some u := by
  intro j u h
  subst hn
  rw [add0, cell_of_row _ _ _ _ _ _ (heap_alloc_new W _)]
  simpa using h
theorem src_int {w : World} (x : Int) : Src Tryd.prog 1 24 (.slice (some ⟨w.heap.size, 0, none⟩) 1 1) 1 [.int .i64 x] (w.alloc (.cells #[.int .i64 x] 3)) :=
  Src.ofSlice _ Tryd.underlying24 ⟨w.heap.size, 0, none⟩ 1 1 [.int .i64 x] rfl (one_new _ _ rfl _ _) (by simp [Value.oneCell'])
/-- An int is put at the end of a row of ints. -/
theorem app_int {w : World} {v : Value} {l : List Int} (x : Int) (ty : TypeId) (h : RowIs w 1 v l.length (ints l)) (hl : l.length ≤ 16777000) : ∃ v' w', (Builtin.append_ #[24, 24] ty #[v, .slice (some ⟨w.heap.size, 0, none⟩) 1 1]).run Tryd.prog (w.alloc (.cells #[.int .i64 x] 3)) = .ok v' w' ∧ RowIs w' 1 v' (l ++ [x]).length (ints (l ++ [x])) ∧ Touch (fun k => v.ownBlock = some k) w w' ∧ (∀ k, v'.ownBlock = some k → v.ownBlock = some k ∨ w.heap.size ≤ k) := by
  have hb := below_new (w := w) (.cells #[.int .i64 x] 3)
  obtain ⟨v', w', hr, h2, h3, h4⟩ := run_append_row (w.alloc (.cells #[.int .i64 x] 3)) 24 3 ty 24 Tryd.underlying24 info3 rfl (by omega) (by omega) v l.length 1 (ints l) [.int .i64 x] _ (h.below hb) (src_int x) (by omega)
  refine ⟨v', w', hr, by rw [List.length_append, ints_snoc]; exact h2, (Touch.of_below hb).grown h3 (fun k hk _ => hk), fun k hk => ?_⟩
  rcases h4 with e | e
  · exact .inl (e ▸ hk)
  · right
    rw [e] at hk
    have := Option.some.inj hk
    rw [asz] at this
    omega
/-- A slice of numbers, wherever it lies, as what is appended. -/
theorem src_sis {w : World} {v : Value} {l : List Int} (h : SIs w v l) : Src Tryd.prog 1 24 v l.length (ints l) w := by
  obtain ⟨A, cap, rfl, _, _, h3⟩ := h
  cases A with
  | none =>
    have : l = [] := by
      cases l with
      | nil => rfl
      | cons x r => obtain ⟨a, e, _⟩ := h3 0 x rfl; cases e
    subst this
    exact Src.ofNil _ Tryd.underlying24 cap
  | some a =>
    refine Src.ofSlice _ Tryd.underlying24 a l.length cap (ints l) (by rw [ints_len, Nat.mul_one]) (fun j u hu => ?_) (fun u hu => ?_)
    · unfold ints at hu
      rw [List.getElem?_map] at hu
      cases hx : l[j]? with
      | none => rw [hx] at hu; cases hu
      | some x =>
        rw [hx] at hu
        obtain ⟨a', e, _, hc⟩ := h3 j x hx
        cases e
        cases hu
        exact hc
    · unfold ints at hu
      obtain ⟨x, _, rfl⟩ := List.mem_map.1 hu
      rfl
/-- Numbers of a slice are put behind a row of numbers. -/
theorem app_sis {w : World} {v u : Value} {l m : List Int} (ty : TypeId) (h : RowIs w 1 v l.length (ints l)) (hs : SIs w u m) (hl : l.length + m.length ≤ 16777000) : ∃ v' w', (Builtin.append_ #[24, 24] ty #[v, u]).run Tryd.prog w = .ok v' w' ∧ RowIs w' 1 v' (l ++ m).length (ints (l ++ m)) ∧ Touch (fun k => v.ownBlock = some k) w w' ∧ (∀ k, v'.ownBlock = some k → v.ownBlock = some k ∨ w.heap.size ≤ k) := by
  obtain ⟨v', w', hr, h2, h3, h4⟩ := run_append_row w 24 3 ty 24 Tryd.underlying24 info3 rfl (by omega) (by omega) v l.length m.length (ints l) (ints m) u h (src_sis hs) (by omega)
  refine ⟨v', w', hr, by rw [List.length_append]; unfold ints at h2 ⊢; rw [List.map_append]; exact h2, (Touch.refl _ _).grown h3 (fun k hk _ => hk), fun k hk => ?_⟩
  rcases h4 with e | e
  · exact .inl (e ▸ hk)
  · right
    rw [e] at hk
    have := Option.some.inj hk
    omega
theorem wpListIn_app_run {F : Fence} {n : Nat} {P : Program} {w w' : World} {ops : Array Oper} {rest : List Oper} {o : Oper} {a : Act} {Q : Exit → Act → World → Prop} (hg : o.guard = none) (s x : Operand) (T tx : TypeId) (ho : o.op = .call { callee := .builtin .append, args := #[s, x], argTypes := #[T, tx] }) {u v v' : Value} (hs : a.eval s = u) (hx : a.eval x = v) (hrun : (Builtin.append_ #[T, tx] o.type #[u, v]).run P w = .ok v' w') (hK : wpListIn F n P ops Q rest (a.put o.dst v') w') : wpListIn F n P ops Q (o :: rest) a w :=
  wpListIn_plain hg fun K hK' => by
    unfold Oper.wpIn
    refine ⟨by simp [Oper.about, ho, resolve, Target.leads, Sem.run_pure], ?_⟩
    rw [Oper.semAt_plain F _ _ (by rw [ho]; intro c hc'; cases hc')]
    simp [execOp, ho, resolve, invoke, builtin, hs, hx, hrun, Result.andThen]
    exact hK' _ _ hK
theorem touch_none {S : Nat → Prop} {A B : World} (h : A.grownBy B none) : Touch S A B := ⟨h.os, h.tape, h.output, h.size, fun k hk _ => h.block k hk (fun e => by cases e)⟩
theorem up_foot (n : Nat) (hn : 1 ≤ n) (Bn Bt : Nat) (v : Value) (N : List Nd) (P : List Pth) (m : Int) (hP : P.length ≤ 1000) (w : World) (hBn : w.cell? ⟨Bn, 0, none⟩ = some (.int .i64 m)) (hBt : w.cell? ⟨Bt, 0, none⟩ = some v) (hv : TrAt w v N P) :
    SeqFoot Tryd.prog n 43 #[.pointer (some ⟨Bn, 0, none⟩), .pointer (some ⟨Bt, 0, none⟩)] (rndL (aboveI P m)) (fun ys => ys.map (·.1) = List.range (aboveI P m).length) (fun pre => ∃ k, k ≤ (aboveI P m).length ∧ pre.map (·.1) = List.range k) (aboveI P m).length (TrS Bn Bt v N) w := by
  intro l J Jx W hW hJ hJF hJx hY F0 h0 hD
  have hlt : ∀ k, TrS Bn Bt v N k → k < W.heap.size := fun k hk => by
    have : k < w.heap.size := by
      rcases hk with rfl | rfl | hk
      · exact heap_lt' hBn
      · exact heap_lt' hBt
      · exact hv.own_lt _ hk
    exact Nat.lt_of_lt_of_le this hW.size
  refine (up_in n hn l Bn Bt v N P m hP (fun pre W' => ∃ F, J pre W' F ∧ (∀ k, TrS Bn Bt v N k → ¬ F k) ∧ ∀ k, TrS Bn Bt v N k → k < W'.heap.size) (fun pre W' => ∃ F, Jx pre W' F) ?_ ?_ W
    ((hW.cell (p := ⟨Bn, 0, none⟩) (heap_lt' hBn)).trans hBn) ((hW.cell (p := ⟨Bt, 0, none⟩) (heap_lt' hBt)).trans hBt) (hv.below hW) ⟨F0, h0, hD, hlt⟩).mono ?_
  · rintro s A B ⟨F, h, hd, hl⟩ hg
    exact ⟨F, hJ _ _ _ _ h (touch_none hg), hd, fun k hk => Nat.lt_of_lt_of_le (hl k hk) hg.size⟩
  · rintro pre x A ⟨F, h, hd, hl⟩ hlen
    refine (hY pre x A F h hlen).mono fun e B hb => ?_
    rcases hb with ⟨rfl, F', h', ht, hF'⟩ | ⟨rfl, F', hx, _⟩
    · refine .inl ⟨rfl, ⟨F', h', fun k hk e => ?_, fun k hk => Nat.lt_of_lt_of_le (hl k hk) ht.size⟩, ht.size, fun k hk => ht.block k (hl k hk) (hd k hk)⟩
      rcases hF' k e with e | e
      · exact hd k hk e
      · have := hl k hk; omega
    · exact .inr ⟨rfl, F', hx⟩
  · rintro e B ⟨hv, (⟨ys, h1, F, h2, _⟩ | h)⟩
    · exact ⟨hv, .inl ⟨ys, h1, F, h2⟩⟩
    · exact ⟨hv, .inr h⟩
/-- What came, as whole numbers. -/
def cameI (l : List Nat) (pre : List (RndL l)) : List Int := pre.map fun x => (rndN l x.1 : Int)
theorem cameI_len (l : List Nat) (pre : List (RndL l)) : (cameI l pre).length = pre.length := by unfold cameI; rw [List.length_map]
theorem cameI_snoc (l : List Nat) (pre : List (RndL l)) (x : RndL l) : cameI l (pre ++ [x]) = cameI l pre ++ [(rndN l x.1 : Int)] := by unfold cameI; rw [List.map_append]; rfl
theorem cameI_all {l : List Nat} {ys : List (RndL l)} (h : ys.map (·.1) = List.range l.length) : cameI l ys = natI l := by
  have : cameI l ys = (ys.map (·.1)).map fun j => (rndN l j : Int) := by unfold cameI; rw [List.map_map]; rfl
  rw [this, h]
  refine List.ext_getElem? fun i => ?_
  unfold natI
  rw [List.getElem?_map, List.getElem?_map]
  by_cases hi : i < l.length
  · rw [List.getElem?_range hi, rndN_at hi]; rfl
  · rw [List.getElem?_eq_none (by rw [List.length_range]; omega), List.getElem?_eq_none (by omega)]; rfl
/-- A row of one's own is there behind the walk: the box B holds it; own blocks lie behind b. -/
def AccAt (w0 : World) (B b : Nat) (t : TypeId) (l : List Int) (W : World) (F : Nat → Prop) : Prop :=
  Below w0.heap.size w0 W ∧ ∃ v, W.heap[B]? = some (.cells #[v] t (0, 0)) ∧ RowIs W 1 v l.length (ints l) ∧ (∀ g, v.ownBlock = some g → b ≤ g) ∧ ∀ k, F k ↔ (k = B ∨ v.ownBlock = some k)
set_option maxRecDepth 100000 in
set_option maxHeartbeats 4000000 in
theorem appseq_any {w w0 : World} {gf : Nat} {lb : Array Value} {l : List Nat} {D : Nat → Prop} (eg : ∀ args w, (callFunc gf args).run Tryd.prog w = .ok (.enter gf args) w) (hl : l.length ≤ 1000)
    (hseq : SeqFoot Tryd.prog 7 gf lb (rndL l) (fun ys => ys.map (·.1) = List.range l.length) (fun pre => ∃ k, k ≤ l.length ∧ pre.map (·.1) = List.range k) l.length D w0) (hw : Below w0.heap.size w0 w) (hD : ∀ k, D k → k < w.heap.size) :
    Calls Tryd.prog 44 #[.slice none 0 0, .func (.func gf) #[] lb] w fun e w' => ∃ v, e = .returned v ∧ RowIs w' 1 v l.length (ints (natI l)) ∧ (∀ g, v.ownBlock = some g → w.heap.size ≤ g) ∧ Below w.heap.size w w' := by
  refine (callsIn_wide (n := 9)).1 ?_
  refine callsIn_of_wp_marks Tryd.func44 rfl trivial ?_ rfl
  simp only [Tryd.ntmps44, List.size_toArray, List.length_cons, List.length_nil, Nat.reduceAdd, Nat.reduceSub, Array.replicate_succ, Array.replicate_zero, List.push_toArray, List.append_toArray, List.nil_append, List.cons_append]
  refine wpIn_wide.2 ?_
  go_wp2_with fail
  have hbA := below_new (w := w) (.cells #[.slice none 0 0] 24)
  refine (wpIn_wide (n := 8)).1 ?_
  refine wpIn_rangeFunc_foot (n := 8) (by omega) (gf := gf) (lb := lb) rfl eg hseq (hw.trans (hbA.mono hw.size)) (fun k hk => by rw [asz]; have := hD k hk; omega) (fun _ => rfl)
    (fun pre W F => AccAt w w.heap.size (w.heap.size + 3) 24 (cameI l pre) W F)
    (fun _ _ _ _ => False) ?hI ?hIF ?hIx ?hIxF (fun k => k = w.heap.size) ?h0 ?hF0
    (fun x => { tmps := #[.slice none 0 0, .func (.func gf) #[] lb, .pointer (some ⟨w.heap.size, 0, none⟩), undef, .slice none 0 0, .int .i64 (rndN l x.1 : Int), .func (.func gf) #[] lb, .int .i64 (rndN l x.1 : Int), undef, undef, undef, undef, undef], defers := [] })
    ?assign ?body ?done ?stop
  case hI =>
    rintro s W W' F ⟨hb, v, hB, hr, ho, hF⟩ ht
    rw [asz] at ht
    refine ⟨hb.trans (ht.below (fun i hi => by omega) hb.size), v, (ht.block _ (heap_lt hB) (fun e => by have := e.1; omega)).trans hB, hr.touch ht (fun g hg e => e.2 ((hF g).2 (.inr hg))), ho, hF⟩
  case hIF =>
    rintro s W F ⟨hb, v, hB, hr, ho, hF⟩ k hk
    rw [asz]
    rcases (hF k).1 hk with rfl | hk
    · exact ⟨heap_lt hB, .inl (by omega)⟩
    · exact ⟨hr.lt k hk, .inr (ho k hk)⟩
  case hIx => intro c s W W' F h; exact h.elim
  case hIxF => intro c s W F h; exact h.elim
  case h0 => exact ⟨hbA, .slice none 0 0, alloc_at w _, RowIs.nil _ _, (fun g e => by cases e), fun k => ⟨.inl, fun e => e.elim id (fun e => by cases e)⟩⟩
  case hF0 => intro k hk e; have := hD k hk; omega
  case assign =>
    intro l' x W K hK
    simp only [rndL]
    gi_wp2
    exact hK
  case body =>
    rintro l' pre x W F ⟨hb, v, hB, hr, ho, hF⟩ hlen hsz
    rw [asz] at hsz
    have hcl : (cameI l pre).length ≤ 1000 := by rw [cameI_len]; omega
    have HE := Lib.hid (cameI_snoc l pre x)
    generalize (rndN l x.1 : Int) = y at *
    generalize cameI l pre = m at *
    obtain ⟨A, c, rfl, hc1, hc2, _⟩ := id hr.form
    obtain ⟨v', W', hrun, hv', ht, ho'⟩ := app_int y 24 hr (by omega)
    obtain ⟨A', c', rfl, _⟩ := id hv'.form
    have hBsz := heap_lt hB
    have hnB : ∀ g, (Value.slice A m.length c).ownBlock = some g → g ≠ w.heap.size := fun g hg e => by have := ho g hg; omega
    have hB2 : W'.heap[w.heap.size]? = some (.cells #[.slice A m.length c] 24 (0, 0)) := (ht.block _ hBsz (fun e => hnB _ e rfl)).trans hB
    have q0 := cell_of hB 0
    have q2 := cell_of hB2 0
    have f2 := free0 hB2 0
    have s2 := set_at hB2 0 (.slice A' (m ++ [y]).length c')
    simp only [Array.setIfInBounds, List.size_toArray, List.length_cons, List.length_nil, Nat.zero_add, Nat.lt_add_one, dite_true, ↓reduceDIte] at s2
    have HS2 := Lib.hid s2
    have hnew : ∀ g, (Value.slice A' (m ++ [y]).length c').ownBlock = some g → w.heap.size + 3 ≤ g := fun g hg => by
      rcases ho' g hg with h | h
      · exact ho g h
      · omega
    have HNEW := Lib.hid hnew
    have HB3 := Lib.hid ((hb.trans (ht.below (B := w.heap.size) (fun i hi => by have := ho i hi; omega) hb.size)).setCell (p := ⟨w.heap.size, 0, none⟩) (Nat.le_refl _) (.slice A' (m ++ [y]).length c'))
    have HT3 : Hid (Touch F W (W'.setCell ⟨w.heap.size, 0, none⟩ (.slice A' (m ++ [y]).length c'))) := Lib.hid ((ht.mono (fun k _ hk => (hF k).2 (.inr hk))).setCell ⟨w.heap.size, 0, none⟩ (fun _ => (hF _).2 (.inl rfl)) _)
    have HR3 : Hid (RowIs (W'.setCell ⟨w.heap.size, 0, none⟩ (.slice A' (m ++ [y]).length c')) 1 (.slice A' (m ++ [y]).length c') (m ++ [y]).length (ints (m ++ [y]))) := Lib.hid (hv'.keep (by simp [World.setCell]) (fun g hg => Below.heap_setCell _ _ _ _ (fun e => by have := hnew g hg; have e : g = w.heap.size := e; omega)))
    have HSUB : Hid (∀ k, (k = w.heap.size ∨ (Value.slice A' (m ++ [y]).length c').ownBlock = some k) → F k ∨ W.heap.size ≤ k) := Lib.hid (fun k hk => by
      rcases hk with rfl | hk
      · exact .inl ((hF _).2 (.inl rfl))
      · rcases ho' k hk with h | h
        · exact .inl ((hF _).2 (.inr h))
        · exact .inr h)
    obtain ⟨ml, hml⟩ : ∃ ml, ml = (m ++ [y]).length := ⟨_, rfl⟩
    have HML := Lib.hid hml
    rw [← hml] at HS2 HNEW HB3 HT3 HR3 HSUB hrun
    clear hml hb hB hr ho hF hv' ht ho' hnB hB2 hnew s2 hcl hc1 hc2 hlen hsz
    gi_wp2_with (gi_at_builtin; refine wpListIn_app_run rfl _ _ _ _ rfl rfl rfl hrun ?_)
    exact ⟨fun k => k = w.heap.size ∨ (Value.slice A' ml c').ownBlock = some k, ⟨HB3.out, _, HS2.out, by rw [HE.out]; exact HML.out ▸ HR3.out, HNEW.out, fun _ => Iff.rfl⟩, HT3.out, HSUB.out⟩
  case done =>
    rintro D' ys W F hD' hnF hys ⟨hb, v, hB, hr, ho, hF⟩ hK
    rw [asz] at hD'
    rw [cameI_all hys] at hr
    rw [natI_len] at hr
    have q0 := cell_of hB 0
    have f0 := free0 hB 0
    simp at q0
    have HK := Lib.hid hK
    have HB := Lib.hid hb
    have HR := Lib.hid hr
    have HO := Lib.hid ho
    have hnv : ∀ g, v.ownBlock = some g → g ≠ D' := fun g hg e => hnF (by rw [← e]; exact (hF g).2 (.inr hg))
    have HNV := Lib.hid hnv
    clear hys hK hb hr ho hB hF hnv
    go_wp2_with fail
    refine ⟨by simp, .inl ⟨_, _, rfl, run_takeDeferred HK.out, ?_⟩⟩
    refine ⟨v, by simp [results, Tryd.results44, go_sem], ?_⟩
    refine ⟨v, rfl, HR.out.keep (by rw [World.putObj_size]; exact Nat.le_refl _) (fun g hg => World.putObj_heap_other (HNV.out g hg)), fun g hg => by have := HO.out g hg; omega, ?_⟩
    refine HB.out.grown (grownBy_putObj' _ D' _) HB.out.size (fun k e => ?_)
    cases e
    omega
  case stop => rintro D' c pre W F _ _ _ h; exact h.elim
set_option maxRecDepth 100000 in
set_option maxHeartbeats 4000000 in
theorem collect_any {w w0 : World} {gf : Nat} {lb : Array Value} {l : List Nat} {D : Nat → Prop} (eg : ∀ args w, (callFunc gf args).run Tryd.prog w = .ok (.enter gf args) w) (hl : l.length ≤ 1000)
    (hseq : SeqFoot Tryd.prog 7 gf lb (rndL l) (fun ys => ys.map (·.1) = List.range l.length) (fun pre => ∃ k, k ≤ l.length ∧ pre.map (·.1) = List.range k) l.length D w0) (hw : Below w0.heap.size w0 w) (hD : ∀ k, D k → k < w.heap.size) :
    Calls Tryd.prog 34 #[.func (.func gf) #[] lb] w fun e w' => ∃ v, e = .returned v ∧ RowIs w' 1 v l.length (ints (natI l)) ∧ (∀ g, v.ownBlock = some g → w.heap.size ≤ g) ∧ Below w.heap.size w w' := by
  have HA := Lib.hid (appseq_any eg hl hseq hw hD)
  clear hseq hw hD eg hl
  go_enter Tryd.func34, Tryd.ntmps34
  go_wp2_with fail
  refine (HA.out).mono ?_
  rintro e w1 ⟨v, rfl, h1, h2, h3⟩
  have H1 := Lib.hid h1
  have H2 := Lib.hid h2
  have H3 := Lib.hid h3
  clear h1 h2 h3
  go_wp2_with fail
  refine bodyPost_ret (v := v) (by simp [results, Tryd.results34, go_sem]) rfl ⟨v, rfl, H1.out, H2.out, H3.out⟩
set_option maxRecDepth 100000 in
set_option maxHeartbeats 4000000 in
theorem Above_any {w : World} {v : Value} {N : List Nd} {P : List Pth} (m : Int) (h : TrAt w v N P) (hP : P.length ≤ 1000) :
    Calls Tryd.prog 14 #[.agg #[v], .int .i64 m] w fun e w' => ∃ v', e = .returned v' ∧ RowIs w' 1 v' (aboveI P m).length (ints (natI (aboveI P m))) ∧ (∀ g, v'.ownBlock = some g → w.heap.size ≤ g) ∧ Below w.heap.size w w' := by
  obtain ⟨g, cap, rfl, _, _, _⟩ := h.form
  have hb1 := below_new (w := w) (.cells #[.slice (some ⟨g, 0, none⟩) P.length cap] 27)
  obtain ⟨w1, hw1⟩ : ∃ w1, w1 = w.alloc (.cells #[.slice (some ⟨g, 0, none⟩) P.length cap] 27) := ⟨_, rfl⟩
  rw [← hw1] at hb1
  obtain ⟨w3, hw3⟩ : ∃ w3, w3 = (w1.alloc (.cells #[.slice (some ⟨g, 0, none⟩) P.length cap] 27)).alloc (.cells #[.int .i64 m] 3) := ⟨_, rfl⟩
  have hb3 : Below w1.heap.size w1 w3 := by rw [hw3]; exact (below_new _).trans ((below_new _).mono (by rw [asz]; omega))
  have hs3 : w3.heap.size = w1.heap.size + 2 := by rw [hw3, asz, asz]
  have hcn : w3.cell? ⟨w1.heap.size + 1, 0, none⟩ = some (.int .i64 m) := by
    have := alloc_at (w1.alloc (.cells #[.slice (some ⟨g, 0, none⟩) P.length cap] 27)) (.cells #[.int .i64 m] 3)
    rw [asz, ← hw3] at this
    exact cell_of this 0
  have hct : w3.cell? ⟨w1.heap.size, 0, none⟩ = some (.slice (some ⟨g, 0, none⟩) P.length cap) := by
    have := (Below.heap_alloc (w1.alloc (.cells #[.slice (some ⟨g, 0, none⟩) P.length cap] 27)) (.cells #[.int .i64 m] 3) w1.heap.size (by rw [asz]; omega)).trans (alloc_at w1 _)
    rw [← hw3] at this
    exact cell_of this 0
  have hv3 := (h.below hb1).below hb3
  have hl : (aboveI P m).length ≤ 1000 := Nat.le_trans (aboveI_le h.tree) hP
  have HC := Lib.hid (collect_any (enters_of Tryd.func43 (by kernel_rfl) rfl) hl (up_foot 7 (by omega) (w1.heap.size + 1) w1.heap.size (.slice (some ⟨g, 0, none⟩) P.length cap) N P m hP w3 hcn hct hv3) (Below.refl _ w3) (fun k hk => by
    rcases hk with rfl | rfl | hk
    · omega
    · omega
    · exact hv3.own_lt _ hk))
  have HU := Lib.hid (upwards_any w1 (.slice (some ⟨g, 0, none⟩) P.length cap) m rfl)
  rw [← hw3] at HU
  have hs1 : w1.heap.size = w.heap.size + 1 := by rw [hw1, asz]
  rw [hs1] at HU HC
  clear hs1
  have HB13 := Lib.hid (hb1.trans (hb3.mono hb1.size))
  have HW1 := Lib.hid hw1
  have hsw : w.heap.size ≤ w3.heap.size := by have := hb1.size; omega
  clear hw3 hb3 hs3 hcn hct hv3 hl h hP hb1
  go_enter Tryd.func14, Tryd.ntmps14
  go_wp2_with fail
  rw [← HW1.out]
  refine (HU.out).mono ?_
  rintro e w4 ⟨rfl, rfl⟩
  go_wp2_with fail
  refine (HC.out).mono ?_
  rintro e w5 ⟨v', rfl, h1, h2, h3⟩
  have H1 := Lib.hid h1
  have H2 := Lib.hid h2
  have H3 := Lib.hid h3
  clear h1 h2 h3
  go_wp2_with fail
  refine bodyPost_ret (v := v') (by simp [results, Tryd.results14, go_sem]) rfl ⟨v', rfl, H1.out, fun g hg => Nat.le_trans hsw (H2.out g hg), HB13.out.trans (H3.out.mono HB13.out.size)⟩
end Go.Proofs.YtpploljennbpdaaDoor
