/- New, Versions; a chain that is not there. -/
import Derived.Test.YtmaokoekbjjgfaaDoorZChaO
import Derived.Laws.CopyRow
import Derived.Deep.WholeRow
set_option linter.unusedSimpArgs false
set_option linter.unusedVariables false
set_option linter.unnecessarySimpa false
namespace Go.Proofs.YtmaokoekbjjgfaaDoor
open Go.RowKit Go.Shelf

theorem row_one {W : World} {b : Nat} {x : Ver} (h : W.heap[b]? = some (.cells #[.int .i64 x.at_, .int .i64 x.n, .bool x.there, .int .i64 x.read, .bool x.opn] 47 (0, 0))) : RowIs W 5 (.slice (some ⟨b, 0, none⟩) 1 1) [x].length (verC [x]) := by
  refine .inr ⟨b, 1, rfl, rfl, Nat.le_refl _, heap_lt h, Nat.le_refl _, by unfold maxLen; omega, fun j u hj => ?_, fun j hj => ⟨?_, free0 h j⟩⟩
  · rw [cell_of h j]
    simpa [verC, verV] using hj
  · rw [cell_of h j, Array.getElem?_eq_getElem (by simpa using hj)]
    rfl
set_option maxRecDepth 100000 in
set_option maxHeartbeats 1000000 in
theorem New_any {w : World} {n : Int} {th : Bool} (hG : Glob w) (hn : InR64 n) :
    Calls Tryd.prog 7 #[.int .i64 n, .bool th] w fun e w' => ∃ c v, e = .returned (.pointer (some ⟨c, 0, none⟩)) ∧ Ch w' c v [⟨0, numT n th, th, 0, false⟩] ∧ Below w.heap.size w w' ∧ w.heap.size ≤ c ∧ ∀ b, v.ownBlock = some b → w.heap.size ≤ b := by
  have HV := Lib.hid (version_any 0 n th w)
  go_enter Tryd.func7, Tryd.ntmps7
  go_wp2_with fail
  refine (HV.out).mono ?_
  rintro e w1 ⟨rfl, hb1⟩
  have HB1 := Lib.hid hb1
  clear hb1 HV
  go_wp2_with fail
  go_ret
  have hb2 := below_new (w := w1) (.cells #[.int .i64 0, .int .i64 (numT n th), .bool th, .int .i64 0, .bool false] 47)
  have hb3 := below_new (w := w1.alloc (.cells #[.int .i64 0, .int .i64 (numT n th), .bool th, .int .i64 0, .bool false] 47)) (.cells #[.slice (some ⟨w1.heap.size, 0, none⟩) 1 1] 58)
  have hs1 : w1.heap.size < (w1.alloc (.cells #[.int .i64 0, .int .i64 (numT n th), .bool th, .int .i64 0, .bool false] 47)).heap.size := by rw [asz]; omega
  have hbb : Below w.heap.size w ((w1.alloc (.cells #[.int .i64 0, .int .i64 (numT n th), .bool th, .int .i64 0, .bool false] 47)).alloc (.cells #[.slice (some ⟨w1.heap.size, 0, none⟩) 1 1] 58)) := HB1.out.trans ((hb2.trans (hb3.mono (by omega))).mono HB1.out.size)
  have hrow := row_one (x := ⟨0, numT n th, th, 0, false⟩) (alloc_at w1 _)
  have hsz := HB1.out.size
  have hat := alloc_at (w1.alloc (.cells #[.int .i64 0, .int .i64 (numT n th), .bool th, .int .i64 0, .bool false] 47)) (.cells #[.slice (some ⟨w1.heap.size, 0, none⟩) 1 1] 58)
  rw [asz] at hat
  refine ⟨_, _, rfl, ⟨⟨hat, hrow.below hb3, fun e => ?_⟩, List.pairwise_singleton _ _, by simp, fun u hu => ?_, hG.below hbb, fun e => ?_⟩, hbb, by omega, fun b hb => ?_⟩
  · have e : w1.heap.size = w1.heap.size + 1 := Option.some.inj e
    omega
  · obtain rfl := List.mem_singleton.1 hu
    exact ⟨by unfold InR64; show -9223372036854775808 ≤ (0 : Int) ∧ (0 : Int) ≤ 9223372036854775807; omega, numT_ok hn, by unfold InR64; show -9223372036854775808 ≤ (0 : Int) ∧ (0 : Int) ≤ 9223372036854775807; omega⟩
  · have e : w1.heap.size = 0 := Option.some.inj e
    have := hG.lt
    omega
  · have hb : w1.heap.size = b := Option.some.inj hb
    omega
theorem copy_run {P : Program} (w : World) (dT sT ty elem : TypeId) (z h g n cap : Nat) (cur : Array Value) (t : TypeId) (l : List Value)
    (hu : P.underlying dT = some (.slice elem)) (hs : (P.info? elem).map (·.size) = some z) (hg : w.heap[h]? = some (.cells cur t (0, 0))) (hcur : cur.size = l.length) (hl : l.length = n * z)
    (hsrc : ∀ j v, l[j]? = some v → w.cell? ⟨g, j, none⟩ = some v) (h1 : ∀ v ∈ l, v.oneCell' = true) :
    (Builtin.copy_ #[dT, sT] ty #[.slice (some ⟨h, 0, none⟩) n n, .slice (some ⟨g, 0, none⟩) n cap]).run P w = .ok (.int .i64 n) (w.setRow h l.toArray) := by
  have hf := run_firstCells_some (P := P) w z n ⟨g, 0, none⟩ n cap l hl (fun j v hj => by rw [add0]; exact hsrc j v hj)
  have hst := run_storeCells_at P h 0 t l 0 cur w hg (by omega) h1
  have e : cur.toList.take (0 + 0) ++ l ++ cur.toList.drop (0 + 0 + l.length) = l := by
    rw [List.drop_eq_nil_of_le (by simp [hcur])]
    simp
  rw [e] at hst
  cases hq : P.info? elem with
  | none => simp [hq] at hs
  | some i =>
    have hi : i.size = z := by simpa [hq] using hs
    simp [Builtin.copy_, run_underlying hu, Builtin.lenOf, sizeOf, typeInfo, hq, hi, hf, hst, goInt]
theorem wpList_run_make {P : Program} (w : World) {ops : Array Oper} {rest : List Oper} {o : Oper} {a : Act} {Q : Exit → Act → World → Prop} (hg : o.guard = none) (l c : Operand) (T : TypeId) (hop : o.op = Op.makeSlice T l c) {x y v : Value} {w' : World} (hl : a.eval l = x) (hc : a.eval c = y)
    (hr : (Instr.makeSlice T x y).run P w = .ok v w') (hK : wpList P ops Q rest (a.put o.dst v) w') : wpList P ops Q (o :: rest) a w := by
  refine wpList_plain hg fun K hK' => ?_
  unfold Oper.wp
  simp [execOp, hop, hl, hc, hr, Result.andThen]
  exact hK' _ _ hK
theorem wpList_run_copy {P : Program} (w : World) {ops : Array Oper} {rest : List Oper} {o : Oper} {a : Act} {Q : Exit → Act → World → Prop} (hgd : o.guard = none) (d s : Operand) (t t' : TypeId)
    (ho : o.op = .call { callee := .builtin .copy, args := #[d, s], argTypes := #[t, t'] }) (v u : Value) (hd : a.eval d = v) (hs : a.eval s = u) {v' : Value} {w' : World}
    (hr : (Builtin.copy_ #[t, t'] o.type #[v, u]).run P w = .ok v' w') (h : wpList P ops Q rest (a.put o.dst v') w') : wpList P ops Q (o :: rest) a w :=
  wpList_plain hgd fun K hK => by
    unfold Oper.wp execOp
    simp only [ho, resolve, invoke, builtin, Sem.run_bind, Sem.run_pure, Result.andThen_ok, List.map_toArray, List.map_cons, List.map_nil, hd, hs, hr]
    exact hK _ _ h
theorem verC_one (L : List Ver) : ∀ v ∈ verC L, v.oneCell' = true := by
  intro v hv
  unfold verC at hv
  obtain ⟨u, _, hu⟩ := List.mem_flatMap.1 hv
  simp only [verV, List.mem_cons, List.not_mem_nil, or_false] at hu
  rcases hu with rfl | rfl | rfl | rfl | rfl <;> rfl
theorem row_all {W : World} {b : Nat} {L : List Ver} {T : TypeId} (hl : L.length ≤ 1000000) (h : W.heap[b]? = some (.cells (verC L).toArray T (0, 0))) : RowIs W 5 (.slice (some ⟨b, 0, none⟩) L.length L.length) L.length (verC L) := by
  refine .inr ⟨b, L.length, rfl, verC_len L, Nat.le_refl _, heap_lt h, by rw [verC_len]; omega, by unfold maxLen; omega, fun j u hj => ?_, fun j hj => ⟨?_, free0 h j⟩⟩
  · rw [cell_of h j]
    simpa using hj
  · rw [cell_of h j, Array.getElem?_eq_getElem (by simpa [verC_len] using hj)]
    rfl
set_option maxRecDepth 100000 in
set_option maxHeartbeats 1000000 in
theorem Versions_any {w : World} {c : Nat} {v : Value} {L : List Ver} (h : Ch w c v L) (h0 : 0 < L.length) :
    Calls Tryd.prog 20 #[.pointer (some ⟨c, 0, none⟩)] w fun e w' => e = .returned (.slice (some ⟨w.heap.size, 0, none⟩) L.length L.length) ∧ w' = w.alloc (.cells (verC L).toArray 47) := by
  rcases h.row with ⟨_, e, _⟩ | ⟨g, cap, rfl, _, hle, hc⟩
  · omega
  have kc : w.cell? ⟨c, 0, none⟩ = some (.slice (some ⟨g, 0, none⟩) L.length cap) := cell_of h.head 0
  have hlI : (L.length : Int) ≤ 1000000 := by have := h.few; omega
  obtain ⟨i0, hi, hz0, hz1, hz2⟩ := info_parts infoV
  have hrun := run_make (P := Tryd.prog) w 48 47 i0 _ Tryd.underlying48 hi hz0 .i64 .i64 (L.length : Int) (L.length : Int) (by omega) (by omega) (by rw [hz2]; omega) (by omega)
  rw [hz1, Int.toNat_natCast] at hrun
  generalize hM : madeCells (Value.agg #[.int .i64 0, .int .i64 0, .bool false, .int .i64 0, .bool false]).cells (L.length * 5) = M at hrun
  have hMs : M.size = (verC L).length := by rw [← hM, size_madeCells, verC_len]
  have hb := below_new (w := w) (.cells M 47)
  have hgl := hc.lt
  have kc1 : (w.alloc (.cells M 47)).cell? ⟨c, 0, none⟩ = some (.slice (some ⟨g, 0, none⟩) L.length cap) := (hb.cell (p := ⟨c, 0, none⟩) (heap_lt h.head)).trans kc
  have hcp := copy_run (P := Tryd.prog) (w.alloc (.cells M 47)) 48 48 3 47 5 w.heap.size g L.length cap M 47 (verC L) Tryd.underlying48 (by rw [hi]; show some i0.size = some 5; rw [hz1]) (alloc_at w _) hMs (verC_len L) (fun j u hj => (hb.cell (p := ⟨g, j, none⟩) hgl).trans (hc.holds j u hj)) (verC_one L)
  rw [World.setRow_alloc_new] at hcp
  have HRUN := Lib.hid hrun
  clear hrun hb hgl hc h hi hz0 hz1 hz2 hM hMs
  go_enter Tryd.func20, Tryd.ntmps20
  go_wp2_with (at_make; refine wpList_run_make _ rfl _ _ _ rfl rfl rfl HRUN.out ?_)
  go_ret
  exact ⟨rfl, rfl⟩
set_option maxRecDepth 100000 in
set_option maxHeartbeats 1000000 in
theorem Versions_nil (w : World) : Calls Tryd.prog 20 #[.pointer none] w fun e w' => e = .returned (.slice none 0 0) ∧ w' = w := by
  go_enter Tryd.func20, Tryd.ntmps20
  go_wp2
  go_ret
  exact ⟨rfl, rfl⟩
set_option maxRecDepth 100000 in
set_option maxHeartbeats 1000000 in
theorem Read_nil (t : Int) (w : World) : Calls Tryd.prog 14 #[.pointer none, .int .i64 t] w fun e w' => e = .returned (.tuple #[.int .i64 0, .bool false, .int .i64 1]) ∧ w' = w := by
  go_enter Tryd.func14, Tryd.ntmps14
  go_wp2
  refine bodyPost_ret (v := .tuple #[.int .i64 0, .bool false, .int .i64 1]) (by simp [results, Tryd.results14, go_sem]) rfl ⟨rfl, rfl⟩
set_option maxRecDepth 100000 in
set_option maxHeartbeats 1000000 in
theorem Write_nil (t n : Int) (th : Bool) (w : World) : Calls Tryd.prog 16 #[.pointer none, .int .i64 t, .int .i64 n, .bool th] w fun e w' => e = .returned (.int .i64 1) ∧ w' = w := by
  go_enter Tryd.func16, Tryd.ntmps16
  go_wp2
  go_ret
  exact ⟨rfl, rfl⟩
set_option maxRecDepth 100000 in
set_option maxHeartbeats 1000000 in
theorem open_nil (t : Int) (w : World) : Calls Tryd.prog 32 #[.pointer none, .int .i64 t] w fun e w' => e = .returned (.tuple #[.int .i64 0, .bool false]) ∧ w' = w := by
  go_enter Tryd.func32, Tryd.ntmps32
  go_wp2
  refine bodyPost_ret (v := .tuple #[.int .i64 0, .bool false]) (by simp [results, Tryd.results32, go_sem]) rfl ⟨rfl, rfl⟩
set_option maxRecDepth 100000 in
set_option maxHeartbeats 1000000 in
theorem Commit_nil (t : Int) (w : World) : Calls Tryd.prog 18 #[.pointer none, .int .i64 t] w fun e w' => e = .returned (.bool false) ∧ w' = w := by
  have HO := Lib.hid (open_nil t w)
  go_enter Tryd.func18, Tryd.ntmps18
  go_wp2_with fail
  refine (HO.out).mono ?_
  rintro e w1 ⟨rfl, rfl⟩
  clear HO
  go_wp2_with fail
  go_ret
  exact ⟨rfl, rfl⟩
set_option maxRecDepth 100000 in
set_option maxHeartbeats 1000000 in
theorem Abort_nil (t : Int) (w : World) : Calls Tryd.prog 19 #[.pointer none, .int .i64 t] w fun e w' => e = .returned (.bool false) ∧ w' = w := by
  have HO := Lib.hid (open_nil t w)
  go_enter Tryd.func19, Tryd.ntmps19
  go_wp2_with fail
  refine (HO.out).mono ?_
  rintro e w1 ⟨rfl, rfl⟩
  clear HO
  go_wp2_with fail
  go_ret
  exact ⟨rfl, rfl⟩
set_option maxRecDepth 100000 in
set_option maxHeartbeats 1000000 in
theorem Prune_nil (t : Int) (w : World) : Calls Tryd.prog 21 #[.pointer none, .int .i64 t] w fun e w' => e = .returned (.int .i64 0) ∧ w' = w := by
  go_enter Tryd.func21, Tryd.ntmps21
  go_wp2
  go_ret
  exact ⟨rfl, rfl⟩
set_option maxRecDepth 100000 in
set_option maxHeartbeats 1000000 in
theorem Copy_nil (w : World) : Calls Tryd.prog 10 #[.pointer none] w fun e w' => e = .returned (.pointer none) ∧ w' = w := by
  go_enter Tryd.func10, Tryd.ntmps10
  go_wp2
  go_ret
  exact ⟨rfl, rfl⟩
end Go.Proofs.YtmaokoekbjjgfaaDoor
