/- slices.Insert of one claim into a row. lock: slices.Insert of a claim into a lane's row, whatever it is. -/
import Derived.Test.YtmchmlkbpocboaaGreatDoorZLokC
set_option linter.unusedSimpArgs false
set_option linter.unusedVariables false
set_option linter.unnecessarySimpa false
namespace Go.Proofs.YtmchmlkbpocboaaGreatDoor
open Go.RowKit

theorem shape_of {w : World} {g j : Nat} (h : (w.cell? ⟨g, j, none⟩).isSome = true) : ∃ t k, w.shape? g = some (t, k) ∧ k ≠ 0 := by
  unfold World.cell? at h
  unfold World.shape?
  cases e : w.heap[g]? with
  | none => simp [e] at h
  | some o =>
    cases o with
    | cells cs t fr =>
      refine ⟨t, cs.size, rfl, fun e0 => ?_⟩
      have : cs[j]? = none := by rw [Array.getElem?_eq_none (by omega)]
      simp [e, this] at h
    | _ => simp [e] at h
theorem copy_off {P : Program} (w : World) (dT sT ty elem : TypeId) (z g p dn dc h q sn sc k : Nat) (l : List Value)
    (hu : P.underlying dT = some (.slice elem)) (hs : (P.info? elem).map (·.size) = some z) (hk : Nat.min sn dn = k) (hl : l.length = k * z)
    (hsrc : ∀ j v, l[j]? = some v → w.cell? ⟨h, q + j, none⟩ = some v) (hc : ∀ j, j < l.length → (w.cell? ⟨g, p + j, none⟩).isSome = true) (hf : ∀ j, j < l.length → w.frozen? ⟨g, p + j, none⟩ = false) (h1 : ∀ v ∈ l, v.oneCell' = true) :
    (Builtin.copy_ #[dT, sT] ty #[.slice (some ⟨g, p, none⟩) dn dc, .slice (some ⟨h, q, none⟩) sn sc]).run P w = .ok (.int .i64 k) (w.setCells g p l) := by
  have hf0 := run_firstCells_some (P := P) w z k ⟨h, q, none⟩ sn sc l hl (fun j v hj => by
    have hadd : (⟨h, q, none⟩ : Addr).add j = ⟨h, q + j, none⟩ := by unfold Addr.add; split <;> simp_all
    rw [hadd]; exact hsrc j v hj)
  have hst := run_storeCells_cells (P := P) g p l 0 w (fun j hj => by rw [Nat.add_zero]; exact hc j hj) (fun j hj => by rw [Nat.add_zero]; exact hf j hj) h1
  rw [Nat.add_zero] at hst
  cases hq : P.info? elem with
  | none => simp [hq] at hs
  | some i =>
    have hi : i.size = z := by simpa [hq] using hs
    simp only [Builtin.firstCells] at hf0
    simp [Builtin.copy_, run_underlying hu, Builtin.lenOf, Builtin.firstCells, sizeOf, typeInfo, hq, hi, hk, hf0, hst, goInt]
theorem step_copy_run {P : Program} {ops : Array Oper} {o : Oper} {a : Act} {w wa : World} {K : Act → World → Prop} {Q : Exit → Act → World → Prop} {E : Prop} {T tx : TypeId} {u v v' : Value}
    (hrun : (Builtin.copy_ #[T, tx] o.type #[u, v]).run P w = .ok v' wa) (hgd : o.guard = none) (s x : Operand) (ho : o.op = .call { callee := .builtin .copy, args := #[s, x], argTypes := #[T, tx] })
    (hs : a.eval s = u) (hx : a.eval x = v) (h : K (a.put o.dst v') wa) : if Region.wanted o (yielded ops a.tmps) = true then Oper.wp P o a w K Q else E := by
  have hw : Region.wanted o (yielded ops a.tmps) = true := by simp [Region.wanted, hgd]
  rw [if_pos hw]
  unfold Oper.wp execOp
  simp only [ho, resolve, invoke, builtin, Sem.run_bind, Sem.run_pure, Result.andThen_ok, List.map_toArray, List.map_cons, List.map_nil, hs, hx, hrun]
  exact h
/-- One element goes in behind the first i, in place. -/
def insL (z i : Nat) (l xs : List Value) : List Value := l.take (i * z) ++ (xs ++ l.drop (i * z))
theorem insL_len {z i n : Nat} {l xs : List Value} (hl : l.length = n * z) (hx : xs.length = z) (hi : i ≤ n) : (insL z i l xs).length = (n + 1) * z := by
  have h1 : i * z ≤ n * z := Nat.mul_le_mul_right _ hi
  unfold insL
  rw [List.length_append, List.length_append, List.length_take, List.length_drop, hl, hx, Nat.add_mul, Nat.one_mul]
  omega
theorem insL_end {z n : Nat} {l xs : List Value} (hl : l.length = n * z) : insL z n l xs = l ++ xs := by
  unfold insL
  rw [List.take_of_length_le (by omega), List.drop_of_length_le (by omega), List.append_nil]
theorem insL_one {z i : Nat} {l xs : List Value} (h : ∀ u ∈ l, u.oneCell' = true) (hx : ∀ u ∈ xs, u.oneCell' = true) : ∀ u ∈ insL z i l xs, u.oneCell' = true := fun u hu => by
  unfold insL at hu
  rcases List.mem_append.1 hu with h1 | h1
  · exact h u (List.mem_of_mem_take h1)
  · rcases List.mem_append.1 h1 with h1 | h1
    · exact hx u h1
    · exact h u (List.mem_of_mem_drop h1)
theorem Area.ins {w : World} {z g o cap n i : Nat} {l xs : List Value} (h : Area w z g o cap l) (hl : l.length = n * z) (hi : i < n) (hr : n + 1 ≤ cap) (hx : xs.length = z) (hx1 : ∀ u ∈ xs, u.oneCell' = true) :
    Area ((w.setCells g (o + (i + 1) * z) (l.drop (i * z))).setCells g (o + i * z) xs) z g o cap (insL z i l xs) := by
  have e1 : (i + 1) * z = i * z + z := by rw [Nat.add_mul, Nat.one_mul]
  have h1 : (i + 1) * z ≤ n * z := Nat.mul_le_mul_right _ hi
  have h2 : (n + 1) * z ≤ cap * z := Nat.mul_le_mul_right _ hr
  have e2 : (n + 1) * z = n * z + z := by rw [Nat.add_mul, Nat.one_mul]
  have hd : (l.drop (i * z)).length = n * z - i * z := by rw [List.length_drop, hl]
  have ht : (l.take (i * z)).length = i * z := by rw [List.length_take]; omega
  have ht1 : (l.take ((i + 1) * z)).length = (i + 1) * z := by rw [List.length_take]; omega
  have h3 : Area (w.setCells g (o + (i + 1) * z) (l.drop (i * z))) z g o cap (l.take ((i + 1) * z) ++ l.drop (i * z)) := h.put (by rw [hd]; omega) (by rw [List.length_append, ht1, hd]; omega) (fun u hu => (List.mem_append.1 hu).elim (fun e => h.one u (List.mem_of_mem_take e)) (fun e => h.one u (List.mem_of_mem_drop e))) (fun j u h1 h2 hj => by
    rw [List.getElem?_append_right (by omega), ht1] at hj
    exact hj) (fun j u h1 hj => by
    have hjl := (List.getElem?_eq_some_iff.1 hj).1
    rw [List.length_append, ht1] at hjl
    rw [List.getElem?_append_left (by omega), List.getElem?_take_of_lt (by omega)] at hj
    exact hj)
  refine h3.put (by omega) (by rw [insL_len hl hx (by omega)]; exact h2) (insL_one h.one hx1) (fun j u h1 h2 hj => ?_) (fun j u h1 hj => ?_)
  · unfold insL at hj
    rw [List.getElem?_append_right (by omega), ht, List.getElem?_append_left (by omega)] at hj
    exact hj
  · unfold insL at hj
    by_cases hjk : j < i * z
    · rw [List.getElem?_append_left (by omega), List.getElem?_take_of_lt hjk] at hj
      rw [List.getElem?_append_left (by omega), List.getElem?_take_of_lt (by omega)]
      exact hj
    · rw [List.getElem?_append_right (by omega), ht, List.getElem?_append_right (by omega), hx] at hj
      rw [List.getElem?_append_right (by omega), ht1]
      have e : j - i * z - z = j - (i + 1) * z := by omega
      rw [e] at hj
      exact hj
theorem infoK : (Tryz.prog.info? 106).map (fun i => (i.zero, i.size, i.bytes)) = some (some (.agg #[.int .i64 0, .bool false]), 2, 16) := by kernel_rfl
theorem inf1K : (Tryz.prog.info? 106).map (·.size) = some 2 := by kernel_rfl
theorem sizeK (w : World) : (sizeOf 106).run Tryz.prog w = .ok 2 w := by kernel_rfl
theorem srcK {W : World} {b : Nat} {xs : List Value} (h : W.heap[b]? = some (.cells xs.toArray 106 (0, 0))) (hx : xs.length = 2) (h1 : ∀ u ∈ xs, u.oneCell' = true) : Src Tryz.prog 2 82 (.slice (some ⟨b, 0, none⟩) 1 1) 1 xs W :=
  Src.ofSlice _ Tryz.underlying82 ⟨b, 0, none⟩ 1 1 _ (by omega) (fun j u hu => by rw [add0, cell_of h j]; simpa using hu) h1
theorem overK {W : World} {b g p : Nat} {xs : List Value} (hx : W.heap[b]? = some (.cells xs.toArray 106 (0, 0))) (hxl : xs.length = 2) (hbg : b ≠ g) {j : Nat} (hg : (W.cell? ⟨g, j, none⟩).isSome = true) (lb cb : Nat) :
    (callFunc 127 #[.slice (some ⟨b, 0, none⟩) 1 1, .slice (some ⟨g, p, none⟩) lb cb]).run Tryz.prog W = .ok (.value (.bool false)) W := by
  obtain ⟨t, k, hs, hk⟩ := shape_of hg
  rw [run_callFunc_extern Tryz.func127 (by kernel_rfl) (by kernel_rfl) (by kernel_rfl) (e := Extern.SlicesOverlaps.overlaps #[82, 82] #[4]) (by kernel_rfl),
    Lib.run_overlaps_apart W 82 4 106 Tryz.underlying82 2 sizeK ⟨b, 0, none⟩ ⟨g, p, none⟩ 1 1 lb cb hbg 106 t 2 k (by simp [World.shape?, hx, hxl]) hs hk (free0 hx 0) (free0 hx 2)]
  rfl
set_option maxRecDepth 100000 in
set_option maxHeartbeats 2000000 in
theorem ins_roomK {W : World} {l xs : List Value} {g o cap b i n : Nat} (h : Area W 2 g o cap l) (hl : l.length = n * 2) (hi : i < n) (hroom : n + 1 ≤ cap) (hn : n ≤ 100000) (hx : W.heap[b]? = some (.cells xs.toArray 106 (0, 0))) (hxl : xs.length = 2) (hx1 : ∀ u ∈ xs, u.oneCell' = true) (hbg : b ≠ g) :
    Calls Tryz.prog 105 #[.slice (some ⟨g, o, none⟩) n cap, .int .i64 i, .slice (some ⟨b, 0, none⟩) 1 1] W (InsPost W 2 g o cap (n + 1) (insL 2 i l xs)) := by
  have hmx := h.max
  unfold maxLen at hmx
  have hlI : (n : Int) ≤ 100000 := by omega
  have hiI : (i : Int) < (n : Int) := by omega
  have hcI : (n : Int) + 1 ≤ (cap : Int) := by omega
  have q0 : ((i : Int) == (n : Int)) = false := by simp; omega
  have hwr : IntKind.i64.wrap ((i : Int) + 1) = (i : Int) + 1 := IntWalk.i64_in _ (by omega)
  have hwr2 : IntKind.i64.wrap ((n : Int) + 1) = (n : Int) + 1 := IntWalk.i64_in _ (by omega)
  have hov := fun p lb cb => overK (p := p) hx hxl hbg (h.there 0 (by omega)).1 lb cb
  have hd : (l.drop (i * 2)).length = (n - i) * 2 := by rw [List.length_drop, hl]; omega
  have hc1 := fun ty => copy_off (P := Tryz.prog) W.drew 82 82 ty 106 2 g (o + (i + 1) * 2) (n + 1 - (i + 1)) (cap - (i + 1)) g (o + i * 2) (n + 1 - i) (cap - i) (n - i) (l.drop (i * 2)) Tryz.underlying82 inf1K (by simp only [Nat.min_def]; split <;> omega) hd
    (fun j u hj => by
      rw [List.getElem?_drop] at hj
      rw [Nat.add_assoc]
      exact h.holds _ _ hj) (fun j hj => by rw [Nat.add_assoc]; exact (h.there _ (by omega)).1) (fun j hj => by rw [Nat.add_assoc]; exact (h.there _ (by omega)).2) (fun u hu => h.one u (List.mem_of_mem_drop hu))
  have hT1 := TouchA.setCells W.drew g o (cap * 2) (o + (i + 1) * 2) (l.drop (i * 2)) (by omega) (by omega)
  have hfin : Area ((W.drew.setCells g (o + (i + 1) * 2) (l.drop (i * 2))).setCells g (o + i * 2) xs) 2 g o cap (insL 2 i l xs) := (h.keep (w' := W.drew) (Nat.le_refl _) rfl).ins hl hi hroom hxl hx1
  obtain ⟨W1, hW1⟩ : ∃ W1, W1 = W.drew.setCells g (o + (i + 1) * 2) (l.drop (i * 2)) := ⟨_, rfl⟩
  rw [← hW1] at hc1 hT1 hfin
  have hT2 := hT1.trans (TouchA.setCells W1 g o (cap * 2) (o + i * 2) xs (by omega) (by omega))
  have hth : ∀ j, j < xs.length → (W1.cell? ⟨g, o + i * 2 + j, none⟩).isSome = true ∧ W1.frozen? ⟨g, o + i * 2 + j, none⟩ = false := fun j hj => by
    rw [hW1]
    refine ⟨?_, by rw [World.frozen?_setCells, Nat.add_assoc]; exact (h.there (i * 2 + j) (by omega)).2⟩
    rw [World.cell?_setCells_out g _ (o + (i + 1) * 2) W.drew ⟨g, o + i * 2 + j, none⟩ (fun _ _ => by simp only; omega), Nat.add_assoc]
    exact (h.there (i * 2 + j) (by omega)).1
  have hx2 := (hT1.block b (heap_lt hx) hbg).trans hx
  have hc2 := fun ty => copy_off (P := Tryz.prog) W1 82 82 ty 106 2 g (o + i * 2) (n + 1 - i) (cap - i) b 0 1 1 1 xs Tryz.underlying82 inf1K (by simp only [Nat.min_def]; split <;> omega) (by omega)
    (fun j u hj => by rw [cell_of hx2, Nat.zero_add]; simpa using hj) (fun j hj => (hth j (by omega)).1) (fun j hj => (hth j (by omega)).2) hx1
  have HC1 := Lib.hid hc1
  have HC2 := Lib.hid hc2
  have HF : Hid (Area (W1.setCells g (o + i * 2) xs) 2 g o cap (insL 2 i l xs) ∧ TouchA g o (cap * 2) W (W1.setCells g (o + i * 2) xs)) := Lib.hid ⟨hfin, (TouchA.refl g o (cap * 2) W).drew.trans hT2⟩
  clear hc1 hc2 hfin hx2 hT1 hT2 hth hW1 hd
  have HR := Lib.hid h
  have HX := Lib.hid hx
  clear h hx
  go_enter Tryz.func105, Tryz.ntmps105
  go_wp2_with (simp only [hov])
  refine wp_only ?_
  refine wp_region_held_drew (S := fun _ => True) (by kernel_rfl) trivial (fun hHeld => ?_)
  refine wpAnyH_take (i := 0) (oi := { dst := some 69, op := Op.move (Operand.tmp 0), type := 82, pos := "slices.go:178", after := #[], guard := none }) (v := ?vv1) rfl (by kernel_rfl) (by kernel_rfl) (by kernel_rfl) (fun _ _ _ h => h) ?hy1 (by assumption) ?rest1
  case hy1 => (refine Or.inl ⟨by rfl, ?_⟩; intro W hSw; (try dsimp only at hSw); go_simp; (try with_reducible rfl))
  try simp only [Act.put, List.setIfInBounds_toArray, List.set_cons_zero, List.set_cons_succ]
  refine wpAnyH_take (i := 1) (oi := { dst := some 70, op := Op.move (Operand.tmp 1), type := 3, pos := "slices.go:178", after := #[], guard := none }) (v := ?vv2) rfl (by kernel_rfl) (by kernel_rfl) (by kernel_rfl) (fun _ _ _ h => h) ?hy2 (by assumption) ?rest2
  case hy2 => (refine Or.inl ⟨by rfl, ?_⟩; intro W hSw; (try dsimp only at hSw); go_simp; (try with_reducible rfl))
  try simp only [Act.put, List.setIfInBounds_toArray, List.set_cons_zero, List.set_cons_succ]
  refine wpAnyH_take (i := 2) (oi := { dst := some 71, op := Op.move (Operand.tmp 7), type := 3, pos := "slices.go:178", after := #[], guard := none }) (v := ?vv3) rfl (by kernel_rfl) (by kernel_rfl) (by kernel_rfl) (fun _ _ _ h => h) ?hy3 (by assumption) ?rest3
  case hy3 => (refine Or.inl ⟨by rfl, ?_⟩; intro W hSw; (try dsimp only at hSw); go_simp; (try with_reducible rfl))
  try simp only [Act.put, List.setIfInBounds_toArray, List.set_cons_zero, List.set_cons_succ]
  refine wpAnyH_take (i := 3) (oi := { dst := some 72, op := Op.binOp BinOp.add 3 (Operand.tmp 70) (Operand.tmp 71) 3, type := 3, pos := "slices.go:178", after := #[{ on := 1, ground := Ground.data }, { on := 2, ground := Ground.data }], guard := none }) (v := ?vv4) rfl (by kernel_rfl) (by kernel_rfl) (by kernel_rfl) (fun _ _ _ h => h) ?hy4 (by assumption) ?rest4
  case hy4 => (refine Or.inl ⟨by rfl, ?_⟩; intro W hSw; (try dsimp only at hSw); go_simp; (try with_reducible rfl))
  try simp only [Act.put, List.setIfInBounds_toArray, List.set_cons_zero, List.set_cons_succ]
  refine wpAnyH_take (i := 4) (oi := { dst := some 73, op := Op.slice 82 (Operand.tmp 69) (some (Operand.tmp 72)) none none, type := 82, pos := "slices.go:178", after := #[{ on := 0, ground := Ground.data }, { on := 3, ground := Ground.data }], guard := none }) (v := (.slice (some ⟨g, o + (i + 1) * 2, none⟩) (n + 1 - (i + 1)) (cap - (i + 1)))) rfl (by kernel_rfl) (by kernel_rfl) (by kernel_rfl) (fun _ _ _ h => h) ?hy5 (by assumption) ?rest5
  case hy5 => ((refine Or.inl ⟨by rfl, fun W _ => ?_⟩; go_simp; rw [if_pos (by omega), if_neg (by omega)]))
  try simp only [Act.put, List.setIfInBounds_toArray, List.set_cons_zero, List.set_cons_succ]
  refine wpAnyH_take (i := 5) (oi := { dst := some 74, op := Op.move (Operand.tmp 0), type := 82, pos := "slices.go:178", after := #[], guard := none }) (v := ?vv6) rfl (by kernel_rfl) (by kernel_rfl) (by kernel_rfl) (fun _ _ _ h => h) ?hy6 (by assumption) ?rest6
  case hy6 => (refine Or.inl ⟨by rfl, ?_⟩; intro W hSw; (try dsimp only at hSw); go_simp; (try with_reducible rfl))
  try simp only [Act.put, List.setIfInBounds_toArray, List.set_cons_zero, List.set_cons_succ]
  refine wpAnyH_take (i := 6) (oi := { dst := some 75, op := Op.move (Operand.tmp 1), type := 3, pos := "slices.go:178", after := #[], guard := none }) (v := ?vv7) rfl (by kernel_rfl) (by kernel_rfl) (by kernel_rfl) (fun _ _ _ h => h) ?hy7 (by assumption) ?rest7
  case hy7 => (refine Or.inl ⟨by rfl, ?_⟩; intro W hSw; (try dsimp only at hSw); go_simp; (try with_reducible rfl))
  try simp only [Act.put, List.setIfInBounds_toArray, List.set_cons_zero, List.set_cons_succ]
  refine wpAnyH_take (i := 7) (oi := { dst := some 76, op := Op.slice 82 (Operand.tmp 74) (some (Operand.tmp 75)) none none, type := 82, pos := "slices.go:178", after := #[{ on := 5, ground := Ground.data }, { on := 6, ground := Ground.data }], guard := none }) (v := (.slice (some ⟨g, o + i * 2, none⟩) (n + 1 - i) (cap - i))) rfl (by kernel_rfl) (by kernel_rfl) (by kernel_rfl) (fun _ _ _ h => h) ?hy8 (by assumption) ?rest8
  case hy8 => ((refine Or.inl ⟨by rfl, fun W _ => ?_⟩; go_simp; rw [if_pos (by omega), if_neg (by omega)]))
  try simp only [Act.put, List.setIfInBounds_toArray, List.set_cons_zero, List.set_cons_succ]
  refine wpAnyH_ready (rs := [8]) (by kernel_rfl) (by simp) ?_
  refine AllReadyH.cons (o := { dst := some 77, op := Op.call { callee := Callee.builtin Builtin.copy, args := #[Operand.tmp 73, Operand.tmp 76], argTypes := #[82, 82] }, type := 3, pos := "slices.go:178", after := #[{ on := 4, ground := Ground.data }, { on := 7, ground := Ground.data }], guard := none }) rfl (fun K hK => ?step9) ?more9
  case more9 => exact AllReadyH.nil
  (refine step_copy_run (HC1.out _) rfl (.tmp 73) (.tmp 76) rfl rfl rfl ?_)
  refine hK.out _ _ ?hS9 (fun hHeld => ?rr9)
  case hS9 => (trivial)
  clear hK K
  try simp only [Act.put, List.setIfInBounds_toArray, List.set_cons_zero, List.set_cons_succ]
  refine wpAnyH_done (by kernel_rfl) ?_ _
  clear hHeld HC1
  dsimp only [onlyN]
  have hc2 := HC2.out
  go_wp2_with fail
  go_ret
  exact ⟨g, o, cap, rfl, hroom, HF.out.1, .inl ⟨rfl, rfl, rfl, by simpa using HF.out.2⟩⟩
set_option maxRecDepth 100000 in
set_option maxHeartbeats 2000000 in
theorem ins_growK {w : World} {l xs : List Value} {g o cap b i n : Nat} (h : Area w 2 g o cap l) (hl : l.length = n * 2) (hi : i < n) (hroom : cap = n) (hn : n ≤ 100000) (hx : w.heap[b]? = some (.cells xs.toArray 106 (0, 0))) (hxl : xs.length = 2) (hx1 : ∀ u ∈ xs, u.oneCell' = true) (hbg : b ≠ g) :
    Calls Tryz.prog 105 #[.slice (some ⟨g, o, none⟩) n cap, .int .i64 i, .slice (some ⟨b, 0, none⟩) 1 1] w (InsPost w 2 g o cap (n + 1) (insL 2 i l xs)) := by
  subst hroom
  have hmx := h.max
  unfold maxLen at hmx
  have hlI : (cap : Int) ≤ 100000 := by omega
  have hiI : (i : Int) < (cap : Int) := by omega
  have q0 : ((i : Int) == (cap : Int)) = false := by simp; omega
  have hwr : IntKind.i64.wrap ((i : Int) + 1) = (i : Int) + 1 := IntWalk.i64_in _ (by omega)
  have hwr2 : IntKind.i64.wrap ((cap : Int) + 1) = (cap : Int) + 1 := IntWalk.i64_in _ (by omega)
  have hd : (l.drop (i * 2)).length = (cap - i) * 2 := by rw [List.length_drop, hl]; omega
  have ht : (l.take (i * 2)).length = i * 2 := by rw [List.length_take, hl]; omega
  obtain ⟨i0, hi0, hz0, hz1, hz2⟩ := info_parts infoK
  have hold : (Builtin.firstCells i0.size i (.slice (some ⟨g, o, none⟩) i cap)).run Tryz.prog w.drew = .ok (l.take (i * 2)).toArray w.drew := by
    rw [hz1]
    exact run_firstCells_some w.drew 2 i ⟨g, o, none⟩ i cap (l.take (i * 2)) ht (fun j v hj => by
      have hadd : (⟨g, o, none⟩ : Addr).add j = ⟨g, o + j, none⟩ := by unfold Addr.add; split <;> simp_all
      rw [hadd]
      refine h.holds _ _ ?_
      have hjl := (List.getElem?_eq_some_iff.1 hj).1
      rw [List.getElem?_take_of_lt (by omega)] at hj
      exact hj)
  have hgl := h.lt
  have hbl := heap_lt hx
  have hkk : (cap : Int) + 1 - (i : Int) = ((cap + 1 - i : Nat) : Int) := by omega
  have hik : i + (cap + 1 - i) = cap + 1 := by omega
  have hap := fun ty => Lib.run_append_grow_zeros w 82 3 ty 106 i0 _ .i64 .i64 Tryz.underlying82 Tryz.underlying3 hi0 hz0 (some ⟨g, o, none⟩) i cap (l.take (i * 2)) hold (cap + 1 - i) (by omega) (by omega) (by omega) (by omega) (by rw [hz2]; omega) (by
    rw [hz2, hik]
    have := Go.Room.nextslicecap_le' (show cap < cap + 1 by omega)
    exact Nat.le_trans (Nat.mul_le_mul_right _ this) (by omega))
  rw [hik] at hap
  rw [← hkk] at hap
  have hGn := grownCap_ge w (cap + 1) cap 106
  have hGm := grownCap_le_maxLen w (cap + 1) cap 106 (by unfold maxLen; omega)
  generalize grownCap w (cap + 1) cap 106 = G at hap hGn hGm
  obtain ⟨ROW, hROW⟩ : ∃ ROW : Array Value, ROW = (l.take (i * 2)).toArray ++ Builtin.zeroCells (Value.cells (.agg #[.int .i64 0, .bool false])) (cap + 1 - i) ++ Builtin.zeroCells (Value.cells (.agg #[.int .i64 0, .bool false])) (G - (cap + 1)) := ⟨_, rfl⟩
  rw [← hROW] at hap
  have hRl : ROW.size = G * 2 := by
    rw [hROW, Array.size_append, Array.size_append, size_zeroCells, size_zeroCells, List.size_toArray, ht]
    have e : (Value.cells (.agg #[.int .i64 0, .bool false])).size = 2 := rfl
    rw [e]
    omega
  have hat := alloc_at w.drew (.cells ROW 106)
  have hbA : Below w.heap.size w (w.drew.alloc (.cells ROW 106)) := below_of_drew (below_new _)
  obtain ⟨W1, hW1⟩ : ∃ W1, W1 = w.drew.alloc (.cells ROW 106) := ⟨_, rfl⟩
  rw [← hW1] at hap hat hbA
  have hat : W1.heap[w.heap.size]? = some (.cells ROW 106 (0, 0)) := hat
  have hr1 : Area W1 2 w.heap.size 0 G (l.take (i * 2)) := Area.block hat hRl hGm (by rw [ht]; omega) (fun j u hj => by
    have hjl := (List.getElem?_eq_some_iff.1 hj).1
    rw [hROW, Array.getElem?_append_left (by rw [Array.size_append, List.size_toArray]; omega), Array.getElem?_append_left (by rw [List.size_toArray]; exact hjl)]
    simpa using hj) (fun u hu => h.one u (List.mem_of_mem_take hu))
  have hr2 : Area (W1.setCells w.heap.size (0 + i * 2) xs) 2 w.heap.size 0 G (l.take (i * 2) ++ xs) := hr1.put (by omega) (by rw [List.length_append, ht, hxl]; omega) (fun u hu => (List.mem_append.1 hu).elim (fun e => h.one u (List.mem_of_mem_take e)) (hx1 u)) (fun j u h1 h2 hb => by
    rw [List.getElem?_append_right (by omega), ht] at hb
    exact hb) (fun j u h1 hb => by
    have hjl := (List.getElem?_eq_some_iff.1 hb).1
    rw [List.length_append, ht] at hjl
    rw [List.getElem?_append_left (by omega)] at hb
    exact hb)
  rw [Nat.zero_add] at hr2
  obtain ⟨W2, hW2⟩ : ∃ W2, W2 = W1.setCells w.heap.size (i * 2) xs := ⟨_, rfl⟩
  rw [← hW2] at hr2
  have hr2 : Area W2.drew 2 w.heap.size 0 G (l.take (i * 2) ++ xs) := hr2.keep (Nat.le_refl _) rfl
  have hr3 : Area (W2.drew.setCells w.heap.size (0 + (i + 1) * 2) (l.drop (i * 2))) 2 w.heap.size 0 G (insL 2 i l xs) := hr2.put (by rw [hd]; omega) (by rw [insL_len hl hxl (by omega)]; omega) (insL_one h.one hx1) (fun j u h1 h2 hb => by
    unfold insL at hb
    rw [List.getElem?_append_right (by omega), ht, List.getElem?_append_right (by omega), hxl] at hb
    have e : j - i * 2 - 2 = j - (i + 1) * 2 := by omega
    rw [e] at hb
    exact hb) (fun j u h1 hb => by
    have hjl := (List.getElem?_eq_some_iff.1 hb).1
    rw [insL_len hl hxl (by omega)] at hjl
    unfold insL at hb
    rw [← List.append_assoc, List.getElem?_append_left (by rw [List.length_append]; omega)] at hb
    exact hb)
  rw [Nat.zero_add] at hr3
  have hT1 : TouchA w.heap.size 0 (G * 2) W1 W2 := by rw [hW2]; exact TouchA.setCells _ _ _ _ _ _ (by omega) (by omega)
  have hT2 : TouchA w.heap.size 0 (G * 2) W1 (W2.drew.setCells w.heap.size ((i + 1) * 2) (l.drop (i * 2))) := hT1.drew.trans (TouchA.setCells _ _ _ _ _ _ (by omega) (by omega))
  have hB : Below w.heap.size w (W2.drew.setCells w.heap.size ((i + 1) * 2) (l.drop (i * 2))) := hT2.fresh (Nat.le_refl _) hbA
  have hx2 : W1.heap[b]? = _ := (hbA.block b hbl).trans hx
  have hcA := fun ty => copy_off (P := Tryz.prog) W1 82 82 ty 106 2 w.heap.size (i * 2) (cap + 1 - i) (G - i) b 0 1 1 1 xs Tryz.underlying82 inf1K (by simp only [Nat.min_def]; split <;> omega) (by omega)
    (fun j u hj => by rw [cell_of hx2, Nat.zero_add]; simpa using hj) (fun j hj => by have := (hr1.there (i * 2 + j) (by omega)).1; rw [Nat.zero_add] at this; exact this) (fun j hj => by have := (hr1.there (i * 2 + j) (by omega)).2; rw [Nat.zero_add] at this; exact this) hx1
  have hgg : W2.drew.heap[g]? = w.heap[g]? := (hT1.block g (Nat.lt_of_lt_of_le hgl hbA.size) (by omega)).trans (hbA.block g hgl)
  have hcB := fun ty => copy_off (P := Tryz.prog) W2.drew 82 82 ty 106 2 w.heap.size ((i + 1) * 2) (cap + 1 - (i + 1)) (G - (i + 1)) g (o + i * 2) (cap - i) (cap - i) (cap - i) (l.drop (i * 2)) Tryz.underlying82 inf1K (by simp only [Nat.min_def]; split <;> omega) hd
    (fun j u hj => by
      rw [List.getElem?_drop] at hj
      rw [World.cell?_of_block (a := ⟨g, o + i * 2 + j, none⟩) hgg, Nat.add_assoc]
      exact h.holds _ _ hj) (fun j hj => by have := (hr2.there ((i + 1) * 2 + j) (by omega)).1; rw [Nat.zero_add] at this; exact this) (fun j hj => by have := (hr2.there ((i + 1) * 2 + j) (by omega)).2; rw [Nat.zero_add] at this; exact this) (fun u hu => h.one u (List.mem_of_mem_drop hu))
  rw [← hW2] at hcA
  have HAP := Lib.hid hap
  have HCA := Lib.hid hcA
  have HCB := Lib.hid hcB
  have HF := Lib.hid (And.intro hr3 hB)
  unfold maxLen at hGm
  have hGI : (cap : Int) + 1 ≤ (G : Int) := by omega
  have hG1 : (G = i) = False := eq_false (by omega)
  have hG2 : (G = i + 1) = False := eq_false (by omega)
  clear hap hcA hcB hr1 hr2 hr3 hT1 hT2 hB hx2 hgg hat hbA hW1 hW2 hROW hRl hold hi0 hz0 hz1 hz2 hkk hik ht hd h hx hgl hbl
  go_enter Tryz.func105, Tryz.ntmps105
  have hca := HCA.out
  go_wp2_with (at_builtin; refine wpList_app_run rfl (.tmp 34) (.tmp 39) _ _ rfl rfl rfl (HAP.out _) ?_)
  refine wp_only ?_
  refine wp_region_held_drew (S := fun _ => True) (by kernel_rfl) trivial (fun hHeld => ?_)
  refine wpAnyH_take (i := 0) (oi := { dst := some 46, op := Op.move (Operand.tmp 9), type := 82, pos := "slices.go:154", after := #[], guard := none }) (v := ?vv10) rfl (by kernel_rfl) (by kernel_rfl) (by kernel_rfl) (fun _ _ _ h => h) ?hy10 (by assumption) ?rest10
  case hy10 => (refine Or.inl ⟨by rfl, ?_⟩; intro W hSw; (try dsimp only at hSw); go_simp; (try with_reducible rfl))
  try simp only [Act.put, List.setIfInBounds_toArray, List.set_cons_zero, List.set_cons_succ]
  refine wpAnyH_take (i := 1) (oi := { dst := some 47, op := Op.move (Operand.tmp 1), type := 3, pos := "slices.go:154", after := #[], guard := none }) (v := ?vv11) rfl (by kernel_rfl) (by kernel_rfl) (by kernel_rfl) (fun _ _ _ h => h) ?hy11 (by assumption) ?rest11
  case hy11 => (refine Or.inl ⟨by rfl, ?_⟩; intro W hSw; (try dsimp only at hSw); go_simp; (try with_reducible rfl))
  try simp only [Act.put, List.setIfInBounds_toArray, List.set_cons_zero, List.set_cons_succ]
  refine wpAnyH_take (i := 2) (oi := { dst := some 48, op := Op.move (Operand.tmp 7), type := 3, pos := "slices.go:154", after := #[], guard := none }) (v := ?vv12) rfl (by kernel_rfl) (by kernel_rfl) (by kernel_rfl) (fun _ _ _ h => h) ?hy12 (by assumption) ?rest12
  case hy12 => (refine Or.inl ⟨by rfl, ?_⟩; intro W hSw; (try dsimp only at hSw); go_simp; (try with_reducible rfl))
  try simp only [Act.put, List.setIfInBounds_toArray, List.set_cons_zero, List.set_cons_succ]
  refine wpAnyH_take (i := 3) (oi := { dst := some 49, op := Op.binOp BinOp.add 3 (Operand.tmp 47) (Operand.tmp 48) 3, type := 3, pos := "slices.go:154", after := #[{ on := 1, ground := Ground.data }, { on := 2, ground := Ground.data }], guard := none }) (v := ?vv13) rfl (by kernel_rfl) (by kernel_rfl) (by kernel_rfl) (fun _ _ _ h => h) ?hy13 (by assumption) ?rest13
  case hy13 => (refine Or.inl ⟨by rfl, ?_⟩; intro W hSw; (try dsimp only at hSw); go_simp; (try with_reducible rfl))
  try simp only [Act.put, List.setIfInBounds_toArray, List.set_cons_zero, List.set_cons_succ]
  refine wpAnyH_take (i := 4) (oi := { dst := some 50, op := Op.slice 82 (Operand.tmp 46) (some (Operand.tmp 49)) none none, type := 82, pos := "slices.go:154", after := #[{ on := 0, ground := Ground.data }, { on := 3, ground := Ground.data }], guard := none }) (v := (.slice (some ⟨w.heap.size, (i + 1) * 2, none⟩) (cap + 1 - (i + 1)) (G - (i + 1)))) rfl (by kernel_rfl) (by kernel_rfl) (by kernel_rfl) (fun _ _ _ h => h) ?hy14 (by assumption) ?rest14
  case hy14 => ((refine Or.inl ⟨by rfl, fun W _ => ?_⟩; go_simp; first | (rw [if_pos (by omega)]; done) | (intro h; omega)))
  try simp only [Act.put, List.setIfInBounds_toArray, List.set_cons_zero, List.set_cons_succ]
  refine wpAnyH_take (i := 5) (oi := { dst := some 51, op := Op.move (Operand.tmp 0), type := 82, pos := "slices.go:154", after := #[], guard := none }) (v := ?vv15) rfl (by kernel_rfl) (by kernel_rfl) (by kernel_rfl) (fun _ _ _ h => h) ?hy15 (by assumption) ?rest15
  case hy15 => (refine Or.inl ⟨by rfl, ?_⟩; intro W hSw; (try dsimp only at hSw); go_simp; (try with_reducible rfl))
  try simp only [Act.put, List.setIfInBounds_toArray, List.set_cons_zero, List.set_cons_succ]
  refine wpAnyH_take (i := 6) (oi := { dst := some 52, op := Op.move (Operand.tmp 1), type := 3, pos := "slices.go:154", after := #[], guard := none }) (v := ?vv16) rfl (by kernel_rfl) (by kernel_rfl) (by kernel_rfl) (fun _ _ _ h => h) ?hy16 (by assumption) ?rest16
  case hy16 => (refine Or.inl ⟨by rfl, ?_⟩; intro W hSw; (try dsimp only at hSw); go_simp; (try with_reducible rfl))
  try simp only [Act.put, List.setIfInBounds_toArray, List.set_cons_zero, List.set_cons_succ]
  refine wpAnyH_take (i := 7) (oi := { dst := some 53, op := Op.slice 82 (Operand.tmp 51) (some (Operand.tmp 52)) none none, type := 82, pos := "slices.go:154", after := #[{ on := 5, ground := Ground.data }, { on := 6, ground := Ground.data }], guard := none }) (v := (.slice (some ⟨g, o + i * 2, none⟩) (cap - i) (cap - i))) rfl (by kernel_rfl) (by kernel_rfl) (by kernel_rfl) (fun _ _ _ h => h) ?hy17 (by assumption) ?rest17
  case hy17 => ((refine Or.inl ⟨by rfl, fun W _ => ?_⟩; first | (go_simp; done) | (go_simp; first | (rw [if_pos (by omega), if_neg (by omega)]; done) | (rw [if_neg (by omega)]; done) | (intro h; omega))))
  try simp only [Act.put, List.setIfInBounds_toArray, List.set_cons_zero, List.set_cons_succ]
  refine wpAnyH_ready (rs := [8]) (by kernel_rfl) (by simp) ?_
  refine AllReadyH.cons (o := { dst := some 54, op := Op.call { callee := Callee.builtin Builtin.copy, args := #[Operand.tmp 50, Operand.tmp 53], argTypes := #[82, 82] }, type := 3, pos := "slices.go:154", after := #[{ on := 4, ground := Ground.data }, { on := 7, ground := Ground.data }], guard := none }) rfl (fun K hK => ?step18) ?more18
  case more18 => exact AllReadyH.nil
  (refine step_copy_run (HCB.out _) rfl (.tmp 50) (.tmp 53) rfl rfl rfl ?_)
  refine hK.out _ _ ?hS18 (fun hHeld => ?rr18)
  case hS18 => (trivial)
  clear hK K
  try simp only [Act.put, List.setIfInBounds_toArray, List.set_cons_zero, List.set_cons_succ]
  refine wpAnyH_done (by kernel_rfl) ?_ _
  clear hHeld HCB HAP
  dsimp only [onlyN]
  go_wp2_with fail
  go_ret
  exact ⟨w.heap.size, 0, G, rfl, hGn, HF.out.1, .inr ⟨rfl, rfl, HF.out.2⟩⟩
set_option maxRecDepth 100000 in
set_option maxHeartbeats 2000000 in
theorem insertK {w : World} {l xs : List Value} {g o cap b i n : Nat} (h : Area w 2 g o cap l) (hl : l.length = n * 2) (hi : i ≤ n) (hnc : n ≤ cap) (hn : n ≤ 100000) (hx : w.heap[b]? = some (.cells xs.toArray 106 (0, 0))) (hxl : xs.length = 2) (hx1 : ∀ u ∈ xs, u.oneCell' = true) (hbg : b ≠ g) :
    Calls Tryz.prog 105 #[.slice (some ⟨g, o, none⟩) n cap, .int .i64 i, .slice (some ⟨b, 0, none⟩) 1 1] w (InsPost w 2 g o cap (n + 1) (insL 2 i l xs)) := by
  by_cases hin : i < n
  · by_cases hr : n + 1 ≤ cap
    · exact ins_roomK h hl hin hr hn hx hxl hx1 hbg
    · exact ins_growK h hl hin (by omega) hn hx hxl hx1 hbg
  · obtain rfl : i = n := by omega
    rw [insL_end hl]
    have hmx := h.max
    unfold maxLen at hmx
    have hlI : (i : Int) ≤ 100000 := by omega
    have hcI : (i : Int) ≤ (cap : Int) := by omega
    by_cases hr : i + 1 ≤ cap
    · obtain ⟨hrun, h2, h3⟩ := app_room (ty := 82) Tryz.underlying82 infoK h hl (srcK hx hxl hx1) hr
      have HF := Lib.hid (And.intro h2 h3)
      have HRUN := Lib.hid hrun
      clear h2 h3 hrun h hx
      go_enter Tryz.func105, Tryz.ntmps105
      go_wp2_with (at_builtin; refine wpList_app_run rfl _ _ _ _ rfl rfl rfl HRUN.out ?_)
      go_ret
      exact ⟨g, o, cap, rfl, hr, HF.out.1, .inl ⟨rfl, rfl, rfl, by simpa using HF.out.2⟩⟩
    · obtain ⟨c', w', hrun, hc', h2, h3⟩ := app_grow (ty := 82) Tryz.underlying82 infoK rfl (by decide) h hl hn (srcK hx hxl hx1) (by omega)
      have HF := Lib.hid (And.intro h2 h3)
      have HRUN := Lib.hid hrun
      clear h2 h3 hrun h hx
      go_enter Tryz.func105, Tryz.ntmps105
      go_wp2_with (at_builtin; refine wpList_app_run rfl _ _ _ _ rfl rfl rfl HRUN.out ?_)
      go_ret
      exact ⟨w.heap.size, 0, c', rfl, hc', HF.out.1, .inr ⟨rfl, rfl, HF.out.2⟩⟩
end Go.Proofs.YtmchmlkbpocboaaGreatDoor

namespace Go.Proofs.YtmchmlkbpocboaaGreatDoor
open Go.RowKit

theorem cmC_app (a b : List Cm) : cmC (a ++ b) = cmC a ++ cmC b := by unfold cmC; rw [List.flatMap_append]
theorem cmC_take : ∀ (l : List Cm) (i : Nat), (cmC l).take (i * 2) = cmC (l.take i)
  | l, 0 => by simp [cmC]
  | [], i + 1 => by simp [cmC]
  | c :: l, i + 1 => by
    have e : cmC (c :: l) = .int .i64 c.who :: .bool c.mine :: cmC l := rfl
    have e2 : cmC ((c :: l).take (i + 1)) = .int .i64 c.who :: .bool c.mine :: cmC (l.take i) := rfl
    rw [e, e2, show (i + 1) * 2 = i * 2 + 1 + 1 by omega, List.take_succ_cons, List.take_succ_cons, cmC_take l i]
theorem cmC_drop : ∀ (l : List Cm) (i : Nat), (cmC l).drop (i * 2) = cmC (l.drop i)
  | l, 0 => by simp
  | [], i + 1 => by simp [cmC]
  | c :: l, i + 1 => by
    have e : cmC (c :: l) = .int .i64 c.who :: .bool c.mine :: cmC l := rfl
    rw [e, show (i + 1) * 2 = i * 2 + 1 + 1 by omega, List.drop_succ_cons, List.drop_succ_cons, cmC_drop l i]
    rfl
theorem cmC_one (l : List Cm) : ∀ u ∈ cmC l, u.oneCell' = true := fun u hu => by
  unfold cmC at hu
  obtain ⟨c, _, h⟩ := List.mem_flatMap.1 hu
  simp only [List.mem_cons, List.not_mem_nil, or_false] at h
  rcases h with rfl | rfl <;> rfl
theorem cmC_ins (l : List Cm) (i : Nat) (c : Cm) : insL 2 i (cmC l) [.int .i64 c.who, .bool c.mine] = cmC (putAt l i c) := by
  unfold insL putAt
  rw [cmC_take, cmC_drop, cmC_app]
  rfl
theorem putAt_len {α : Type} (l : List α) (i : Nat) (x : α) : (putAt l i x).length = l.length + 1 := by
  unfold putAt
  rw [List.length_append, List.length_cons, List.length_take, List.length_drop]
  omega
/-- What an insertion into a row leaves. -/
def InsK (w : World) (rv : Value) (l : List Cm) (e : Ending) (w' : World) : Prop := ∃ A n cap, e = .returned (.slice A n cap) ∧ RowA w' 2 (.slice A n cap) l.length (cmC l) ∧ ((Value.slice A n cap).ownBlock = rv.ownBlock ∨ ∀ g, (Value.slice A n cap).ownBlock = some g → w.heap.size ≤ g) ∧ Touch (fun k => rv.ownBlock = some k) w w'
set_option maxRecDepth 100000 in
set_option maxHeartbeats 2000000 in
theorem insK_any {w : World} {rv : Value} {l : List Cm} {i b : Nat} {c : Cm} (h : RowA w 2 rv l.length (cmC l)) (hi : i ≤ l.length) (hn : l.length ≤ 100000) (hx : w.heap[b]? = some (.cells #[.int .i64 c.who, .bool c.mine] 106 (0, 0))) (hb : rv.ownBlock ≠ some b) :
    Calls Tryz.prog 105 #[rv, .int .i64 i, .slice (some ⟨b, 0, none⟩) 1 1] w (InsK w rv (putAt l i c)) := by
  rcases h with ⟨rfl, h1, h2⟩ | ⟨g, o, cap, rfl, h1, h2, h3⟩
  · have hl : l = [] := List.eq_nil_of_length_eq_zero h1
    subst hl
    obtain rfl : i = 0 := by simpa using hi
    have hx' : w.heap[b]? = some (.cells [.int .i64 c.who, .bool c.mine].toArray 106 (0, 0)) := hx
    obtain ⟨v', w', hrun, hrow, hg, hob⟩ := run_append_row (P := Tryz.prog) w 82 106 82 82 Tryz.underlying82 infoK rfl (by omega) (by omega) (.slice none 0 0) 0 1 [] [.int .i64 c.who, .bool c.mine] (.slice (some ⟨b, 0, none⟩) 1 1) (RowIs.nil _ _) (srcK hx' rfl (by simp [Value.oneCell'])) (by omega)
    rcases hrow with ⟨_, e, _⟩ | ⟨g2, cap2, rfl, e1, e2, e3⟩
    · cases e
    · have HA : Hid (RowA w' 2 (.slice (some ⟨g2, 0, none⟩) 1 cap2) 1 (cmC [c])) := Lib.hid (.inr ⟨g2, 0, cap2, rfl, rfl, e2, e3.lt, e3.le, e3.max, fun j u hj => by rw [Nat.zero_add]; exact e3.holds j u hj, fun j hj => by rw [Nat.zero_add]; exact e3.there j hj, cmC_one _⟩)
      have HT : Hid (Touch (fun k => (Value.slice none 0 0).ownBlock = some k) w w') := Lib.hid ((Touch.refl _ _).grown hg (fun k hk _ => hk))
      have HO : Hid (∀ g, (Value.slice (some ⟨g2, 0, none⟩) 1 cap2).ownBlock = some g → w.heap.size ≤ g) := Lib.hid (fun g hg2 => by
        rcases hob with h | h
        · rw [h] at hg2; cases hg2
        · rw [h] at hg2; injection hg2 with hg2; omega)
      have HRUN := Lib.hid hrun
      clear hx hx' hb hrun hg hob e1 e2 e3 h1 h2 hi hn
      go_enter Tryz.func105, Tryz.ntmps105
      go_wp2_with (at_builtin; refine wpList_app_run rfl _ _ _ _ rfl rfl rfl HRUN.out ?_)
      go_ret
      exact ⟨_, _, _, rfl, HA.out, .inr HO.out, HT.out⟩
  · have hx' : w.heap[b]? = some (.cells [.int .i64 c.who, .bool c.mine].toArray 106 (0, 0)) := hx
    refine (insertK h3 h1 hi h2 hn hx' rfl (by simp [Value.oneCell']) (fun e => hb (by rw [e]; rfl))).mono ?_
    rintro e w' ⟨g', o', cap', rfl, hc, ha, hd⟩
    rw [cmC_ins] at ha
    refine ⟨_, _, _, rfl, .inr ⟨g', o', cap', by rw [putAt_len], by rw [cmC_len, putAt_len], by rw [putAt_len]; exact hc, ha⟩, ?_, ?_⟩
    · rcases hd with ⟨rfl, rfl, rfl, _⟩ | ⟨rfl, rfl, _⟩
      · exact .inl rfl
      · exact .inr (fun g hg => by cases hg; exact Nat.le_refl _)
    · rcases hd with ⟨rfl, rfl, rfl, ht⟩ | ⟨_, _, ht⟩
      · exact ht.touch.mono (fun k _ e => by rw [e]; rfl)
      · exact .of_below ht
end Go.Proofs.YtmchmlkbpocboaaGreatDoor
