/- lock: strike: one is taken out of a lane. lock: strike and serve, walked; rows of numbers. -/
import Derived.Test.YtmchmlkbpocboaaGreatDoorZLokI
import Derived.Test.YtmchmlkbpocboaaGreatDoorZLokE
set_option linter.unusedSimpArgs false
set_option linter.unusedVariables false
set_option linter.unnecessarySimpa false
namespace Go.Proofs.YtmchmlkbpocboaaGreatDoor
open Go.RowKit

set_option maxRecDepth 100000 in
set_option maxHeartbeats 1000000 in
theorem its_any {W : World} {b : Nat} {who : Int} (c : Cm) (h : W.cell? ⟨b, 0, none⟩ = some (.int .i64 who)) : Calls Tryz.prog 69 #[.agg #[.int .i64 c.who, .bool c.mine], .pointer (some ⟨b, 0, none⟩)] W fun e w' => e = .returned (.bool (c.who == who)) ∧ Below W.heap.size W w' := by
  have hbn := below_new (w := W) (.cells #[.int .i64 c.who, .bool c.mine] 106)
  have h1 := (hbn.cell (p := ⟨b, 0, none⟩) (heap_lt' h)).trans h
  have c0 : (W.alloc (.cells #[.int .i64 c.who, .bool c.mine] 106)).cell? ⟨W.heap.size, 0, none⟩ = some (.int .i64 c.who) := cell_of (alloc_at W _) 0
  have HB := Lib.hid hbn
  clear hbn h
  go_enter Tryz.func69, Tryz.ntmps69
  go_wp2_with fail
  refine bodyPost_ret (v := .bool (c.who == who)) (by simp [results, Tryz.results69, go_sem]) rfl ⟨rfl, HB.out⟩
/-- Where one stands first that is struck; none: nowhere. -/
def IdxS (who : Int) (L : List Cm) (r : Int) : Prop := (r = -1 ∧ ∀ v ∈ L, (v.who == who) = false) ∨ ∃ k : Nat, k < L.length ∧ r = k ∧ (∀ u, L[k]? = some u → (u.who == who) = true) ∧ ∀ j, j < k → ∀ v, L[j]? = some v → (v.who == who) = false
set_option maxRecDepth 100000 in
set_option maxHeartbeats 2000000 in
theorem idxS_any {w : World} {rv : Value} {L : List Cm} {b : Nat} {who : Int} (h : RowA w 2 rv L.length (cmC L)) (hl : L.length ≤ 100000) (hb : w.cell? ⟨b, 0, none⟩ = some (.int .i64 who)) :
    Calls Tryz.prog 99 #[rv, .func (.func 69) #[] #[.pointer (some ⟨b, 0, none⟩)]] w fun e w' => ∃ r : Int, e = .returned (.int .i64 r) ∧ Below w.heap.size w w' ∧ IdxS who L r := by
  obtain ⟨A, cap, rfl, h1, h2, hc⟩ := id h.form
  unfold maxLen at h2
  have HC := Lib.hid hc
  have HP := Lib.hid hb
  have hlI : (L.length : Int) ≤ 100000 := by omega
  clear h hc hb
  go_enter Tryz.func99, Tryz.ntmps99
  go_wp2_with fail
  go_loopw [8] (fun iv wr => ∃ k : Nat, k ≤ L.length ∧ iv = .int .i64 k ∧ Below w.heap.size w wr ∧ ∀ j, j < k → ∀ v, L[j]? = some v → (v.who == who) = false) (fun iv _ => L.length - (intOf iv).toNat)
  case atStart => exact ⟨0, Nat.zero_le _, rfl, Below.refl _ _, fun j hj => by omega⟩
  case round =>
    obtain ⟨k, hk, rfl, hbw, hno⟩ := hrel
    have HNO := Lib.hid hno
    have HB := Lib.hid hbw
    by_cases hlt : k < L.length
    · have hx : L[k]? = some L[k] := List.getElem?_eq_getElem hlt
      generalize L[k] = c at hx
      obtain ⟨d0, d1⟩ := cmC_at hx
      obtain ⟨g, o, rfl, k0⟩ := HC.out _ _ d0
      obtain ⟨g', o', eg, k1⟩ := HC.out _ _ d1
      injection eg with eg
      injection eg with eg1 eg2
      subst eg1 eg2
      have q0 := (hbw.cell (p := ⟨g, o + k * 2, none⟩) (heap_lt' k0)).trans k0
      have q1 : wr.cell? ⟨g, o + k * 2 + 1, none⟩ = some (.bool c.mine) := (hbw.cell (p := ⟨g, o + (k * 2 + 1), none⟩) (heap_lt' k1)).trans k1
      have HBE := Lib.hid (its_any (W := wr) c ((hbw.cell (p := ⟨b, 0, none⟩) (heap_lt' HP.out)).trans HP.out))
      obtain ⟨d, hd⟩ : ∃ d, (c.who == who) = d := ⟨_, rfl⟩
      rw [hd] at HBE
      have HD := Lib.hid hd
      have HX := Lib.hid hx
      have hi : (k : Int) < (L.length : Int) := by omega
      have HLT := Lib.hid hlt
      clear hk hbw hno hlt hx d0 d1 k0 k1 hd
      go_wp2_with fail
      refine (HBE.out).mono ?_
      rintro e w2 ⟨rfl, hb2⟩
      have HB2 := Lib.hid (HB.out.trans (hb2.mono HB.out.size))
      clear hb2 q0 q1
      cases d with
      | true =>
        have HE : Hid (IdxS who L (k : Int)) := Lib.hid (.inr ⟨k, HLT.out, rfl, fun u hu => by
          rw [HX.out] at hu
          cases hu
          exact HD.out, HNO.out⟩)
        go_wp2_with fail
        refine bodyPost_ret (v := .int .i64 k) (by simp [results, Tryz.results99, go_sem]) rfl ⟨_, rfl, HB2.out, HE.out⟩
      | false =>
        have HN2 : Hid (∀ j, j < k + 1 → ∀ v, L[j]? = some v → (v.who == who) = false) := Lib.hid (fun j hj v hv => by
          by_cases e : j = k
          · subst e
            rw [HX.out] at hv
            cases hv
            exact HD.out
          · exact HNO.out j (by omega) v hv)
        go_wp2_with fail
        go_roundw
        case rel => exact ⟨k + 1, HLT.out, by go_num, HB2.out, HN2.out⟩
        case measure => have := HLT.out; simp [intOf]; omega
    · obtain rfl : k = L.length := by omega
      have HE : Hid (IdxS who L (-1)) := Lib.hid (.inl ⟨rfl, fun v hv => by
        obtain ⟨j, hj⟩ := List.getElem?_of_mem hv
        exact hno j (List.getElem?_eq_some_iff.1 hj).1 v hj⟩)
      have hn : ¬ (L.length : Int) < (L.length : Int) := by omega
      clear hk hbw hno hlt
      go_wp2_with fail
      refine bodyPost_ret (v := .int .i64 (-1)) (by simp [results, Tryz.results99, go_sem]) rfl ⟨_, rfl, HB.out, HE.out⟩
/-! plain -/
def keepS (who : Int) (L : List Cm) : List Cm := L.filter fun c => c.who != who
/-- Between two rounds: the first i are what is kept of the first j. -/
structure DelS (who : Int) (L M : List Cm) (i j : Nat) : Prop where
  len : M.length = L.length
  lt : i < j
  le : j ≤ L.length
  front : M.take i = keepS who (L.take j)
  back : ∀ n, j ≤ n → M[n]? = L[n]?
theorem keepS_snoc {who : Int} {L : List Cm} {j : Nat} {u : Cm} (hu : L[j]? = some u) : keepS who (L.take (j + 1)) = keepS who (L.take j) ++ (if (u.who == who) then [] else [u]) := by
  unfold keepS
  rw [List.take_add_one, hu, List.filter_append]
  congr 1
  cases h : (u.who == who) <;> simp [h, bne]
theorem DelS.skip {who : Int} {L M : List Cm} {i j : Nat} {u : Cm} (h : DelS who L M i j) (hu : L[j]? = some u) (hg : (u.who == who) = true) : DelS who L M i (j + 1) := by
  have hj := (List.getElem?_eq_some_iff.1 hu).1
  refine ⟨h.len, by have := h.lt; omega, by omega, ?_, fun n hn => h.back n (by omega)⟩
  rw [keepS_snoc hu, hg, h.front]
  simp
theorem DelS.take {who : Int} {L M : List Cm} {i j : Nat} {u : Cm} (h : DelS who L M i j) (hu : L[j]? = some u) (hg : (u.who == who) = false) : DelS who L (M.set i u) (i + 1) (j + 1) := by
  have hj := (List.getElem?_eq_some_iff.1 hu).1
  have hi := h.lt
  have hM := h.len
  refine ⟨by rw [List.length_set]; exact hM, by omega, by omega, ?_, fun n hn => ?_⟩
  · rw [keepS_snoc hu, hg, ← h.front, List.take_add_one, List.getElem?_set_self (by omega)]
    congr 1
    rw [List.take_set_of_le (Nat.le_refl _)]
  · rw [List.getElem?_set_ne (by omega)]
    exact h.back n (by omega)
theorem DelS.start {who : Int} {L : List Cm} {k : Nat} (hk : k < L.length) (h1 : ∀ u, L[k]? = some u → (u.who == who) = true) (h2 : ∀ j, j < k → ∀ v, L[j]? = some v → (v.who == who) = false) : DelS who L L k (k + 1) := by
  refine ⟨rfl, by omega, by omega, ?_, fun _ _ => rfl⟩
  have hu : L[k]? = some L[k] := List.getElem?_eq_getElem hk
  rw [keepS_snoc hu, h1 _ hu]
  unfold keepS
  rw [List.filter_eq_self.2 (fun v hv => by
    obtain ⟨j, hj⟩ := List.getElem?_of_mem hv
    have hjl := (List.getElem?_eq_some_iff.1 hj).1
    rw [List.length_take] at hjl
    rw [List.getElem?_take_of_lt (by omega)] at hj
    unfold bne
    rw [h2 j (by omega) v hj]; rfl)]
  simp
theorem DelS.done {who : Int} {L M : List Cm} {i : Nat} (h : DelS who L M i L.length) : M.take i = keepS who L ∧ i = (keepS who L).length := by
  have h1 := h.front
  rw [List.take_length] at h1
  refine ⟨h1, ?_⟩
  rw [← h1, List.length_take, h.len]
  have := h.lt
  omega
/-- A claim is stored over another one. -/
theorem Area.setK {w : World} {g o cap i : Nat} {M : List Cm} {c : Cm} (h : Area w 2 g o cap (cmC M)) (hi : i < M.length) : Area (w.setCells g (o + i * 2) [.int .i64 c.who, .bool c.mine]) 2 g o cap (cmC (M.set i c)) := by
  have hle := h.le
  rw [cmC_len] at hle
  have e1 : cmC (M.set i c) = cmC (M.take i) ++ ([.int .i64 c.who, .bool c.mine] ++ cmC (M.drop (i + 1))) := by
    rw [List.set_eq_take_append_cons_drop, if_pos hi, cmC_app]; rfl
  have e2 : cmC M = cmC (M.take i) ++ ([.int .i64 (M[i]'hi).who, .bool (M[i]'hi).mine] ++ cmC (M.drop (i + 1))) := by
    have h1 : M = M.take i ++ M[i]'hi :: M.drop (i + 1) := by rw [← List.drop_eq_getElem_cons hi, List.take_append_drop]
    have h2 : cmC (M.take i ++ M[i]'hi :: M.drop (i + 1)) = cmC (M.take i) ++ ([.int .i64 (M[i]'hi).who, .bool (M[i]'hi).mine] ++ cmC (M.drop (i + 1))) := by rw [cmC_app]; rfl
    rw [← h2, ← h1]
  have ht : (cmC (M.take i)).length = i * 2 := by rw [cmC_len, List.length_take, Nat.min_eq_left (by omega)]
  refine h.put (by simp only [List.length_cons, List.length_nil]; omega) (by rw [cmC_len, List.length_set]; omega) (cmC_one _) (fun j u h1 h2 hj => ?_) (fun j u h1 hj => ?_)
  · simp only [List.length_cons, List.length_nil] at h2
    rw [e1, List.getElem?_append_right (by rw [ht]; omega), ht, List.getElem?_append_left (by simp only [List.length_cons, List.length_nil]; omega)] at hj
    exact hj
  · simp only [List.length_cons, List.length_nil] at h1
    by_cases hjk : j < i * 2
    · rw [e1, List.getElem?_append_left (by rw [ht]; exact hjk)] at hj
      rw [e2, List.getElem?_append_left (by rw [ht]; exact hjk)]
      exact hj
    · rw [e1, List.getElem?_append_right (by rw [ht]; omega), ht, List.getElem?_append_right (by simp only [List.length_cons, List.length_nil]; omega)] at hj
      rw [e2, List.getElem?_append_right (by rw [ht]; omega), ht, List.getElem?_append_right (by simp only [List.length_cons, List.length_nil]; omega)]
      exact hj
/-- The tail is cleared: what stands ahead of it is left. -/
theorem Area.cutK {w : World} {g o cap i : Nat} {M : List Cm} (h : Area w 2 g o cap (cmC M)) (hi : i ≤ M.length) (zs : List Value) (hz : zs.length = (M.length - i) * 2) : Area (w.setCells g (o + i * 2) zs) 2 g o cap (cmC (M.take i)) := by
  have hle := h.le
  rw [cmC_len] at hle
  have ht : (cmC (M.take i)).length = i * 2 := by rw [cmC_len, List.length_take, Nat.min_eq_left (by omega)]
  refine h.put (by omega) (by omega) (cmC_one _) (fun j u h1 h2 hj => ?_) (fun j u h1 hj => ?_)
  · have := (List.getElem?_eq_some_iff.1 hj).1
    rw [ht] at this
    omega
  · have := (List.getElem?_eq_some_iff.1 hj).1
    rw [← cmC_take, List.getElem?_take_of_lt (by omega)] at hj
    exact hj
theorem zero_cm (w : World) : (zeroValue 106).run Tryz.prog w = .ok (.agg #[.int .i64 0, .bool false]) w := by kernel_rfl
theorem zero_cms (n : Nat) : (∀ v ∈ (Builtin.zeroCells (Value.agg #[.int .i64 0, .bool false]).cells n).toList, v.oneCell' = true) ∧ (Builtin.zeroCells (Value.agg #[.int .i64 0, .bool false]).cells n).toList.length = n * 2 := by
  refine ⟨fun v hv => ?_, ?_⟩
  · unfold Builtin.zeroCells at hv
    simp only [Array.toList_map, List.mem_map] at hv
    obtain ⟨j, _, rfl⟩ := hv
    have h5 : j % 2 < 2 := Nat.mod_lt _ (by omega)
    have e : (Value.agg #[.int .i64 0, .bool false]).cells = #[.int .i64 0, .bool false] := by rfl
    rw [e]
    show ((#[.int .i64 0, .bool false] : Array Value)[j % 2]!).oneCell' = true
    generalize j % 2 = k at h5
    match k, h5 with
    | 0, _ => rfl
    | 1, _ => rfl
  · rw [Array.length_toList, size_zeroCells]; rfl
theorem clear_cms {W : World} {g p c n : Nat} (ty : TypeId) (hn : 0 < n) (h : ∀ j, j < n * 2 → (W.cell? ⟨g, p + j, none⟩).isSome = true ∧ W.frozen? ⟨g, p + j, none⟩ = false) :
    ∃ zs : List Value, zs.length = n * 2 ∧ (Builtin.clear_ #[82] ty #[.slice (some ⟨g, p, none⟩) n c]).run Tryz.prog W = .ok (.tuple #[]) (W.setCells g p zs) := by
  obtain ⟨h1, h2⟩ := zero_cms n
  have hst := run_storeCells_cells (P := Tryz.prog) g p _ 0 W (fun j hj => by rw [Nat.add_zero]; exact (h j (by omega)).1) (fun j hj => by rw [Nat.add_zero]; exact (h j (by omega)).2) h1
  rw [Nat.add_zero] at hst
  obtain ⟨m, rfl⟩ : ∃ m, n = m + 1 := ⟨n - 1, by omega⟩
  refine ⟨_, h2, ?_⟩
  simp only [Builtin.clear_, List.getElem?_toArray, List.getElem?_cons_zero, Sem.run_bind, run_underlying Tryz.underlying82, Result.andThen_ok, zero_cm, hst, Sem.run_pure]
theorem Area.has {w : World} {g o cap : Nat} {M : List Cm} {j : Nat} {u : Cm} (h : Area w 2 g o cap (cmC M)) (hu : M[j]? = some u) : w.cell? ⟨g, o + j * 2, none⟩ = some (.int .i64 u.who) ∧ w.cell? ⟨g, o + j * 2 + 1, none⟩ = some (.bool u.mine) := by
  obtain ⟨h0, h1⟩ := cmC_at hu
  exact ⟨h.holds _ _ h0, h.holds _ _ h1⟩
set_option maxRecDepth 100000 in
set_option maxHeartbeats 1600000 in
theorem delS_area {w : World} {L : List Cm} {g o cap b : Nat} {who : Int} (h : Area w 2 g o cap (cmC L)) (hn : L.length ≤ cap) (hl : L.length ≤ 100000) (hb : w.cell? ⟨b, 0, none⟩ = some (.int .i64 who)) (hbg : b ≠ g) :
    Calls Tryz.prog 68 #[.slice (some ⟨g, o, none⟩) L.length cap, .func (.func 69) #[] #[.pointer (some ⟨b, 0, none⟩)]] w fun e w' => e = .returned (.slice (some ⟨g, o, none⟩) (keepS who L).length cap) ∧ Area w' 2 g o cap (cmC (keepS who L)) ∧ Touch (fun k => k = g) w w' := by
  have hlI : (L.length : Int) ≤ 100000 := by omega
  have hnI : (L.length : Int) ≤ (cap : Int) := by omega
  have hbl : b < w.heap.size := heap_lt' hb
  have hrow : RowA w 2 (.slice (some ⟨g, o, none⟩) L.length cap) L.length (cmC L) := .inr ⟨g, o, cap, rfl, cmC_len L, hn, h⟩
  have HI := Lib.hid (idxS_any (b := b) (who := who) hrow hl hb)
  have HR := Lib.hid h
  have HBC := Lib.hid hb
  have HBL := Lib.hid hbl
  have HN := Lib.hid hn
  clear h hb hbl hrow
  go_enter Tryz.func68, Tryz.ntmps68
  go_wp2_with fail
  refine (HI.out).mono ?_
  rintro e w1 ⟨r, rfl, hb1, (⟨rfl, hall⟩ | ⟨k, hk, rfl, hk1, hk2⟩)⟩
  · have HB1 := Lib.hid hb1
    have HA : Hid (keepS who L = L) := Lib.hid (by
      unfold keepS
      exact List.filter_eq_self.2 (fun v hv => by unfold bne; rw [hall v hv]; rfl))
    clear hb1 hall HI
    go_wp2_with fail
    go_ret
    rw [HA.out]
    exact ⟨rfl, HR.out.keep HB1.out.size (HB1.out.block g HR.out.lt), .of_below HB1.out⟩
  · have HS := Lib.hid (DelS.start hk hk1 hk2)
    have HB1 := Lib.hid hb1
    have hkI : (k : Int) < (L.length : Int) := by omega
    have q0 : ((k : Int) == -1) = false := by simp
    clear hk1 hk2 hb1 HI
    go_wp2_with fail
    go_loopw [5, 6] (fun iv jv wr => ∃ (i j : Nat) (M : List Cm), iv = .int .i64 i ∧ jv = .int .i64 j ∧ DelS who L M i j ∧ Area wr 2 g o cap (cmC M) ∧ Touch (fun k => k = g) w wr) (fun _ jv _ => L.length - (intOf jv).toNat)
    case atStart => exact ⟨k, k + 1, L, rfl, by go_num, HS.out, HR.out.keep HB1.out.size (HB1.out.block g HR.out.lt), .of_below HB1.out⟩
    case round =>
      obtain ⟨i, j, M, rfl, rfl, hD, hrw, hT⟩ := hrel
      have HD := Lib.hid hD
      have HRW := Lib.hid hrw
      have HT := Lib.hid hT
      have hij := hD.lt
      have hjl := hD.le
      have hijI : (i : Int) < (j : Int) := by omega
      by_cases hlt : j < L.length
      · have hx : L[j]? = some L[j] := List.getElem?_eq_getElem hlt
        generalize L[j] = y at hx
        have hxM : M[j]? = some y := (hD.back j (Nat.le_refl _)).trans hx
        obtain ⟨c0, c1⟩ := hrw.has hxM
        have hjI : (j : Int) < (L.length : Int) := by omega
        have hbw : wr.cell? ⟨b, 0, none⟩ = some (.int .i64 who) := (World.cell?_of_block (a := ⟨b, 0, none⟩) (hT.block b HBL.out hbg)).trans HBC.out
        have hbn := below_new (w := wr) (.cells #[.int .i64 y.who, .bool y.mine] 106)
        have hbl2 : b < wr.heap.size := heap_lt' hbw
        have HG := Lib.hid (its_any y ((hbn.cell (p := ⟨b, 0, none⟩) hbl2).trans hbw))
        have HBN := Lib.hid hbn
        have HX := Lib.hid hx
        have HLT := Lib.hid hlt
        have HIJ := Lib.hid hij
        clear hx hxM hD hrw hT hbw hbn hbl2 hlt hij hjl
        cases hgn : (y.who == who) with
        | true =>
          rw [hgn] at HG
          have HGN := Lib.hid hgn
          clear hgn
          go_wp2_with fail
          refine (HG.out).mono ?_
          rintro e w2 ⟨rfl, hb2⟩
          have HB2 := Lib.hid (HBN.out.trans (hb2.mono HBN.out.size))
          clear hb2 HG
          go_wp2_with fail
          go_roundw
          case rel => exact ⟨i, j + 1, M, rfl, by go_num, HD.out.skip HX.out HGN.out, HRW.out.keep HB2.out.size (HB2.out.block g HRW.out.lt), HT.out.after HB2.out⟩
          case measure => have := HLT.out; simp [intOf]; omega
        | false =>
          rw [hgn] at HG
          have HGN := Lib.hid hgn
          clear hgn
          go_wp2_with fail
          refine (HG.out).mono ?_
          rintro e w2 ⟨rfl, hb2⟩
          have hz := (hb2.block wr.heap.size (by rw [asz]; omega)).trans (alloc_at wr (.cells #[.int .i64 y.who, .bool y.mine] 106))
          have z0 : w2.cell? ⟨wr.heap.size, 0, none⟩ = some (.int .i64 y.who) := cell_of hz 0
          have z1 : w2.cell? ⟨wr.heap.size, 1, none⟩ = some (.bool y.mine) := cell_of hz 1
          have hb3 := HBN.out.trans (hb2.mono HBN.out.size)
          have hrw2 := HRW.out.keep hb3.size (hb3.block g HRW.out.lt)
          have hiM : i < M.length := by have := HD.out.len; have := HIJ.out; have := HLT.out; omega
          have hxi : M[i]? = some (M[i]'hiM) := List.getElem?_eq_getElem hiM
          generalize M[i]'hiM = yi at hxi
          obtain ⟨d0, d1⟩ := hrw2.has hxi
          have hth : ∀ n, n < 2 → w2.frozen? ⟨g, o + i * 2 + n, none⟩ = false := fun n hn5 => by
            have h9 := hrw2.le
            rw [cmC_len] at h9
            have := (hrw2.there (i * 2 + n) (by omega)).2
            rw [Nat.add_assoc]
            exact this
          have f0 := hth 0 (by omega)
          have f1 := hth 1 (by omega)
          rw [Nat.add_zero] at f0
          have hiI : (i : Int) < (L.length : Int) := by omega
          have hset := hrw2.setK (c := y) hiM
          have hTk := TouchA.setCells w2 g o (cap * 2) (o + i * 2) [.int .i64 y.who, .bool y.mine] (by omega) (by have h9 := hrw2.le; rw [cmC_len] at h9; simp only [List.length_cons, List.length_nil]; omega)
          have HR3 : Hid (Area ((w2.setCell ⟨g, o + i * 2, none⟩ (.int .i64 y.who)).setCell ⟨g, o + i * 2 + 1, none⟩ (.bool y.mine)) 2 g o cap (cmC (M.set i y))) := Lib.hid hset
          have HT3 : Hid (Touch (fun k => k = g) w ((w2.setCell ⟨g, o + i * 2, none⟩ (.int .i64 y.who)).setCell ⟨g, o + i * 2 + 1, none⟩ (.bool y.mine))) := Lib.hid ((HT.out.after hb3).trans hTk.touch (fun _ _ e => e))
          clear hb2 HG hz hb3 hrw2 hiM hth hxi hset hTk
          go_wp2_with fail
          go_roundw
          case rel => exact ⟨i + 1, j + 1, M.set i y, by go_num, by go_num, HD.out.take HX.out HGN.out, HR3.out, HT3.out⟩
          case measure => have := HLT.out; simp [intOf]; omega
      · obtain rfl : j = L.length := by omega
        obtain ⟨hm1, hm2⟩ := hD.done
        have hle := hrw.le
        rw [cmC_len, hD.len] at hle
        obtain ⟨zs, hzl, hclr⟩ := clear_cms (W := wr) (g := g) (p := o + i * 2) (c := cap - i) (n := L.length - i) 0 (by omega) (fun n hn5 => by
          rw [Nat.add_assoc]
          exact hrw.there (i * 2 + n) (by omega))
        have hfin := hrw.cutK (i := i) (by rw [hD.len]; omega) zs (by rw [hD.len]; exact hzl)
        rw [hm1] at hfin
        have hTk := TouchA.setCells wr g o (cap * 2) (o + i * 2) zs (by omega) (by rw [hzl]; omega)
        have HF := Lib.hid (And.intro hfin (hT.trans hTk.touch (fun _ _ e => e)))
        have HM2 := Lib.hid hm2
        have hiI : (i : Int) ≤ (L.length : Int) := by omega
        have hcI : (cap = i) = False := eq_false (by omega)
        have hciI : (i : Int) ≤ (cap : Int) := by omega
        clear hD hrw hT hlt hm1 hm2 hle hzl hfin hTk hij hjl HD HRW HT
        go_wp2_with fail
        go_ret
        rw [← HM2.out]
        exact ⟨rfl, HF.out.1, HF.out.2⟩
/-- slices.DeleteFunc of a row, whatever it is. -/
theorem delS_any {w : World} {rv : Value} {L : List Cm} {b : Nat} {who : Int} (h : RowA w 2 rv L.length (cmC L)) (hl : L.length ≤ 100000) (hb : w.cell? ⟨b, 0, none⟩ = some (.int .i64 who)) (hbg : rv.ownBlock ≠ some b) :
    Calls Tryz.prog 68 #[rv, .func (.func 69) #[] #[.pointer (some ⟨b, 0, none⟩)]] w fun e w' => ∃ A n cap, e = .returned (.slice A n cap) ∧ RowA w' 2 (.slice A n cap) (keepS who L).length (cmC (keepS who L)) ∧ (Value.slice A n cap).ownBlock = rv.ownBlock ∧ Touch (fun k => rv.ownBlock = some k) w w' := by
  rcases id h with ⟨rfl, h1, h2⟩ | ⟨g, o, cap, rfl, h1, h2, h3⟩
  · have hL : L = [] := List.eq_nil_of_length_eq_zero h1
    subst hL
    have HI := Lib.hid (idxS_any (who := who) h hl hb)
    clear h h1 h2 hl hb hbg
    go_enter Tryz.func68, Tryz.ntmps68
    go_wp2_with fail
    refine (HI.out).mono ?_
    rintro e w1 ⟨r, rfl, hb1, (⟨rfl, hall⟩ | ⟨k, hk, _⟩)⟩
    · have HB1 := Lib.hid hb1
      clear hb1 hall HI
      go_wp2_with fail
      go_ret
      exact ⟨_, _, _, rfl, .inl ⟨rfl, rfl, rfl⟩, rfl, .of_below HB1.out⟩
    · exact absurd hk (Nat.not_lt_zero _)
  · refine (delS_area h3 h2 hl hb (fun e => hbg (by rw [e]; rfl))).mono ?_
    rintro e w' ⟨rfl, ha, ht⟩
    have hle : (keepS who L).length ≤ L.length := List.length_filter_le _ _
    exact ⟨_, _, _, rfl, .inr ⟨g, o, cap, rfl, cmC_len _, by omega, ha⟩, rfl, ht.mono (fun k _ e => by rw [e]; rfl)⟩
end Go.Proofs.YtmchmlkbpocboaaGreatDoor

namespace Go.Proofs.YtmchmlkbpocboaaGreatDoor
open Go.RowKit

def ints (l : List Int) : List Value := l.map (Value.int .i64)
theorem ints_len (l : List Int) : (ints l).length = l.length := List.length_map _
theorem ints_app (a b : List Int) : ints (a ++ b) = ints a ++ ints b := List.map_append
theorem infoI : (Tryz.prog.info? 3).map (fun i => (i.zero, i.size, i.bytes)) = some (some (.int .i64 0), 1, 8) := by kernel_rfl
theorem one_new (W : World) (n : Nat) (hn : W.heap.size = n) (t : TypeId) (c0 : Value) : ∀ (j : Nat) (u : Value), [c0][j]? = some u → (W.alloc (.cells #[c0] t)).cell? ((⟨n, 0, none⟩ : Addr).add j) = some u := by
  intro j u h
  subst hn
  rw [add0, cell_of_row _ _ _ _ _ _ (heap_alloc_new W _)]
  simpa using h
theorem src_int {w : World} (x : Int) : Src Tryz.prog 1 38 (.slice (some ⟨w.heap.size, 0, none⟩) 1 1) 1 [.int .i64 x] (w.alloc (.cells #[.int .i64 x] 3)) :=
  Src.ofSlice _ Tryz.underlying38 ⟨w.heap.size, 0, none⟩ 1 1 [.int .i64 x] rfl (one_new _ _ rfl _ _) (by simp [Value.oneCell'])
/-- An int is put at the end of a row of ints. -/
theorem app_int {w : World} {v : Value} {l : List Int} (x : Int) (ty : TypeId) (h : RowIs w 1 v l.length (ints l)) (hl : l.length ≤ 16777000) : ∃ v' w', (Builtin.append_ #[38, 38] ty #[v, .slice (some ⟨w.heap.size, 0, none⟩) 1 1]).run Tryz.prog (w.alloc (.cells #[.int .i64 x] 3)) = .ok v' w' ∧ RowIs w' 1 v' (l ++ [x]).length (ints (l ++ [x])) ∧ Touch (fun k => v.ownBlock = some k) w w' ∧ (∀ k, v'.ownBlock = some k → v.ownBlock = some k ∨ w.heap.size ≤ k) := by
  have hb := below_new (w := w) (.cells #[.int .i64 x] 3)
  obtain ⟨v', w', hr, h2, h3, h4⟩ := run_append_row (w.alloc (.cells #[.int .i64 x] 3)) 38 3 ty 38 Tryz.underlying38 infoI rfl (by omega) (by omega) v l.length 1 (ints l) [.int .i64 x] _ (h.below hb) (src_int x) (by omega)
  refine ⟨v', w', hr, by rw [List.length_append, ints_app]; exact h2, (Touch.of_below hb).grown h3 (fun k hk _ => hk), fun k hk => ?_⟩
  rcases h4 with e | e
  · exact .inl (e ▸ hk)
  · right
    rw [e] at hk
    have := Option.some.inj hk
    rw [asz] at this
    omega
set_option maxRecDepth 100000 in
set_option maxHeartbeats 2000000 in
/-- One is struck out of a lane. -/
theorem strike_any {w : World} {b gh : Nat} {rv : Value} {l : Ln} {who : Int} (h : LnAt w b gh rv l) (hw : InR64 who) (hl : l.row.length ≤ 100000) : Calls Tryz.prog 47 #[.pointer (some ⟨b, 0, none⟩), .int .i64 who] w fun e w' => ∃ rv', e = .returned (.tuple #[]) ∧ LnAt w' b gh rv' (strikeP l who) ∧ Touch (fun k => k = b ∨ k = gh ∨ rv.ownBlock = some k) w w' ∧ rv'.ownBlock = rv.ownBlock := by
  have hb1 := below_new (w := w) (.cells #[.int .i64 who] 3)
  have hx1 := alloc_at w (.cells #[.int .i64 who] 3)
  obtain ⟨w1, hw1⟩ : ∃ w1, w1 = w.alloc (.cells #[.int .i64 who] 3) := ⟨_, rfl⟩
  rw [← hw1] at hb1 hx1
  have HW1 := Lib.hid hw1
  have h1 := h.below hb1
  have hgl := h.held.lt
  have hbl := heap_lt h.head
  obtain ⟨w2, hrun, hset, ht⟩ := (h1.held.keep (w' := w1.drew) rfl).del 0 hw
  have hb2 := (ht.block b (heap_lt h1.head) (fun e => h1.off.1 e.symm)).trans h1.head
  have hx2 := (ht.block w.heap.size (heap_lt hx1) (fun e => by omega)).trans hx1
  have hrow2 := (h1.row.keep (w' := w1.drew) (Nat.le_refl _) (fun g hg => rfl)).touch ht (fun g hg e => h1.off.2.2 (by rw [hg, e]))
  have hq : w2.cell? ⟨w.heap.size, 0, none⟩ = some (.int .i64 who) := cell_of hx2 0
  have HDE := Lib.hid (delS_any hrow2 hl hq (fun e => by have := h.row.lt _ e; omega))
  have k2 : w2.cell? ⟨b, 2, none⟩ = some rv := cell_of hb2 2
  have HS : Hid (w1.drew.cell? ⟨b, 0, none⟩ = some (.map (some gh)) ∧ w1.drew.cell? ⟨w.heap.size, 0, none⟩ = some (.int .i64 who)) := Lib.hid ⟨cell_of h1.head 0, cell_of hx1 0⟩
  have HS2 : Hid (w2.cell? ⟨b, 0, none⟩ = some (.map (some gh)) ∧ w2.cell? ⟨w.heap.size, 0, none⟩ = some (.int .i64 who)) := Lib.hid ⟨cell_of hb2 0, hq⟩
  have HH := Lib.hid h1
  have HB2 := Lib.hid hb2
  have HSET := Lib.hid hset
  have HT : Hid (Touch (fun k => k = b ∨ k = gh ∨ rv.ownBlock = some k) w w2) := Lib.hid ((Touch.of_below hb1).trans ((Touch.refl (fun k => k = gh) w1).drew.trans ht (fun k _ e => e)) (fun k _ e => .inr (.inl e)))
  have hd : ∀ ty, (Builtin.delete_ #[80, 3] ty #[.map (some gh), .int .i64 who]).run Tryz.prog w1.drew = .ok (.tuple #[]) w2 := fun ty => hrun
  have hmf := fun (W : World) => (rfl : (Instr.makeFunc (Fn.func 69) #[] #[.pointer (some ⟨w.heap.size, 0, none⟩)]).run Tryz.prog W = _)
  obtain ⟨A, cap, rfl, _⟩ := id h.row.form
  clear h hb1 hx1 hw1 h1 hset ht hb2 hx2 hrow2 hrun hq
  go_enter Tryz.func47, Tryz.ntmps47
  go_wp2_with fail
  rw [← HW1.out]
  refine wp_region_held_drew (S := fun W => W.cell? ⟨b, 0, none⟩ = some (.map (some gh)) ∧ W.cell? ⟨w.heap.size, 0, none⟩ = some (.int .i64 who)) (by kernel_rfl) HS.out (fun hHeld => ?_)
  refine wpAnyH_take (i := 0) (oi := { dst := some 4, op := Op.move (Operand.tmp 0), type := 71, pos := "lane.go:49", after := #[], guard := none }) (v := ?vv1) rfl (by kernel_rfl) (by kernel_rfl) (by kernel_rfl) (fun _ _ _ h => h) ?hy1 (by assumption) ?rest1
  case hy1 => (refine Or.inl ⟨by rfl, ?_⟩; intro W hSw; (try dsimp only at hSw); go_simp; (try with_reducible rfl))
  try simp only [Act.put, List.setIfInBounds_toArray, List.set_cons_zero, List.set_cons_succ]
  refine wpAnyH_take (i := 1) (oi := { dst := some 5, op := Op.nilCheck (Operand.tmp 4), type := 0, pos := "lane.go:49", after := #[{ on := 0, ground := Ground.data }], guard := none }) (v := ?vv2) rfl (by kernel_rfl) (by kernel_rfl) (by kernel_rfl) (fun _ _ _ h => h) ?hy2 (by assumption) ?rest2
  case hy2 => (refine Or.inl ⟨by rfl, ?_⟩; intro W hSw; (try dsimp only at hSw); go_simp; (try with_reducible rfl))
  try simp only [Act.put, List.setIfInBounds_toArray, List.set_cons_zero, List.set_cons_succ]
  refine wpAnyH_take (i := 2) (oi := { dst := some 6, op := Op.fieldAddr 84 (Operand.tmp 5) 0, type := 0, pos := "lane.go:49", after := #[{ on := 1, ground := Ground.data }], guard := none }) (v := ?vv3) rfl (by kernel_rfl) (by kernel_rfl) (by kernel_rfl) (fun _ _ _ h => h) ?hy3 (by assumption) ?rest3
  case hy3 => (refine Or.inl ⟨by rfl, ?_⟩; intro W hSw; (try dsimp only at hSw); go_simp; (try with_reducible rfl))
  try simp only [Act.put, List.setIfInBounds_toArray, List.set_cons_zero, List.set_cons_succ]
  refine wpAnyH_take (i := 3) (oi := { dst := some 7, op := Op.load 80 (Operand.tmp 6), type := 80, pos := "lane.go:49", after := #[{ on := 2, ground := Ground.data }], guard := none }) (v := ?vv4) rfl (by kernel_rfl) (by kernel_rfl) (by kernel_rfl) (fun _ _ _ h => h) ?hy4 (by assumption) ?rest4
  case hy4 => (refine Or.inl ⟨by rfl, ?_⟩; intro W hSw; (try dsimp only at hSw); go_simp; (try with_reducible rfl))
  try simp only [Act.put, List.setIfInBounds_toArray, List.set_cons_zero, List.set_cons_succ]
  refine wpAnyH_take (i := 4) (oi := { dst := some 8, op := Op.load 3 (Operand.tmp 3), type := 3, pos := "lane.go:49", after := #[], guard := none }) (v := ?vv5) rfl (by kernel_rfl) (by kernel_rfl) (by kernel_rfl) (fun _ _ _ h => h) ?hy5 (by assumption) ?rest5
  case hy5 => (refine Or.inl ⟨by rfl, ?_⟩; intro W hSw; (try dsimp only at hSw); go_simp; (try with_reducible rfl))
  try simp only [Act.put, List.setIfInBounds_toArray, List.set_cons_zero, List.set_cons_succ]
  refine wpAnyH_ready (rs := [5]) (by kernel_rfl) (by simp) ?_
  refine AllReadyH.cons (o := { dst := none, op := Op.call { callee := Callee.builtin Builtin.delete, args := #[Operand.tmp 7, Operand.tmp 8], argTypes := #[80, 3] }, type := 0, pos := "lane.go:49", after := #[{ on := 3, ground := Ground.data }, { on := 4, ground := Ground.data }], guard := none }) rfl (fun K hK => ?step6) ?more6
  case more6 => exact AllReadyH.nil
  ((go_simp))
  refine hK.out _ _ ?hS6 (fun hHeld => ?rr6)
  case hS6 => (exact HS2.out)
  clear hK K
  try simp only [Act.put, List.setIfInBounds_toArray, List.set_cons_zero, List.set_cons_succ]
  refine wpAnyH_done (by kernel_rfl) ?_ _
  clear hHeld HS HS2 hd
  go_wp2_with fail
  refine (HDE.out).mono ?_
  rintro e w3 ⟨A3, n3, c3, rfl, hr3, ho3, ht3⟩
  have hb3 := (ht3.block b (heap_lt HB2.out) HH.out.off.2.1).trans HB2.out
  have z2 : w3.cell? ⟨b, 2, none⟩ = some (.slice A l.row.length cap) := cell_of hb3 2
  have f2 := free0 hb3 2
  have HF : Hid (LnAt (w3.setCell ⟨b, 2, none⟩ (.slice A3 n3 c3)) b gh (.slice A3 n3 c3) (strikeP l who) ∧ Touch (fun k => k = b ∨ k = gh ∨ (Value.slice A l.row.length cap).ownBlock = some k) w (w3.setCell ⟨b, 2, none⟩ (.slice A3 n3 c3))) := Lib.hid (by
    have hs : Touch (fun k => k = b) w3 (w3.setCell ⟨b, 2, none⟩ (.slice A3 n3 c3)) := (Touch.refl (fun k => k = b) w3).setCell ⟨b, 2, none⟩ (fun _ => rfl) _
    refine ⟨⟨?_, (HSET.out.touch ht3 (fun e => HH.out.off.2.2 e)).touch hs (fun e => HH.out.off.1 e), ?_, fun c hc => HH.out.nums c (List.mem_filter.1 hc).1, HH.out.off.1, by rw [ho3]; exact HH.out.off.2.1, by rw [ho3]; exact HH.out.off.2.2⟩, (HT.out.trans ht3 (fun k _ e => .inr (.inr e))).trans hs (fun k _ e => .inl e)⟩
    · have := set_at hb3 2 (.slice A3 n3 c3)
      show (w3.setCell ⟨b, 2, none⟩ (.slice A3 n3 c3)).heap[b]? = some (.cells #[.map (some gh), .bool l.mine, .slice A3 n3 c3] 84 (0, 0))
      simpa using this
    · exact hr3.touch hs (fun g hg e => HH.out.off.2.1 (by rw [← ho3, hg, e])))
  have HO := Lib.hid ho3
  clear hr3 ho3 ht3 hb3
  go_wp2_with fail
  first | go_end0 | (refine bodyPost_ret (v := .tuple #[]) (by simp [results, Tryz.results47, go_sem]) rfl ?_)
  exact ⟨_, rfl, HF.out.1, HF.out.2, HO.out⟩
/-- What a service leaves. -/
def ServeP (w : World) (b gh : Nat) (rv : Value) (q : Ln × List Int) (e : Ending) (w' : World) : Prop := ∃ rv' A n c, e = .returned (.slice A n c) ∧ RowIs w' 1 (.slice A n c) q.2.length (ints q.2) ∧ (∀ g, (Value.slice A n c).ownBlock = some g → w.heap.size ≤ g) ∧ LnAt w' b gh rv' q.1 ∧ Touch (fun k => k = b ∨ k = gh) w w' ∧ rv'.ownBlock = rv.ownBlock
theorem serve_stop {n : Nat} {l : Ln} (h : l.row = [] ∨ ∃ c r, l.row = c :: r ∧ letsP l c = false) : serveP n l = (l, []) := by
  cases n with
  | zero => rfl
  | succ n =>
    unfold serveP
    rcases h with h | ⟨c, r, h, h2⟩
    · rw [h]
    · rw [h]
      simp only [h2, Bool.false_eq_true, if_false]
theorem serve_go {l : Ln} {c : Cm} {r : List Cm} (h : l.row = c :: r) (h2 : letsP l c = true) : serveP l.row.length l = ((serveP (giveP { l with row := r } c).row.length (giveP { l with row := r } c)).1, c.who :: (serveP (giveP { l with row := r } c).row.length (giveP { l with row := r } c)).2) := by
  have e : l.row.length = r.length + 1 := by rw [h]; rfl
  rw [e]
  conv => lhs; unfold serveP
  rw [h]
  simp only [h2, if_true]
  rfl
theorem RowA.below {w w' : World} {z : Nat} {v : Value} {n : Nat} {l : List Value} (h : RowA w z v n l) (hb : Below w.heap.size w w') : RowA w' z v n l := h.keep hb.size (fun g hg => hb.block g (h.lt g hg))
/-- The row's front is taken away. -/
theorem RowA.tail {w : World} {rv : Value} {c : Cm} {r : List Cm} (h : RowA w 2 rv (r.length + 1) (cmC (c :: r))) : ∃ g o cap, rv = .slice (some ⟨g, o, none⟩) (r.length + 1) cap ∧ r.length + 1 ≤ cap ∧ cap ≤ maxLen ∧ w.cell? ⟨g, o, none⟩ = some (.int .i64 c.who) ∧ w.cell? ⟨g, o + 1, none⟩ = some (.bool c.mine) ∧ (cap = 1 → RowA w 2 (.slice (some ⟨g, o, none⟩) r.length (cap - 1)) r.length (cmC r)) ∧ (cap ≠ 1 → RowA w 2 (.slice (some ⟨g, o + 2, none⟩) r.length (cap - 1)) r.length (cmC r)) := by
  rcases h with ⟨_, h, _⟩ | ⟨g, o, cap, rfl, h1, h2, h3⟩
  · omega
  · have hb := h3.back (k := 1) (by omega)
    have e : (cmC (c :: r)).drop (1 * 2) = cmC r := by rw [cmC_drop]; rfl
    rw [e] at hb
    refine ⟨g, o, cap, rfl, h2, h3.max, ?_, ?_, fun hc => ?_, fun hc => ?_⟩
    · have := h3.holds 0 (.int .i64 c.who) rfl
      simpa using this
    · exact h3.holds 1 (.bool c.mine) rfl
    · have hr : r.length = 0 := by omega
      have hr0 : r = [] := List.eq_nil_of_length_eq_zero hr
      subst hr0
      subst hc
      exact .inr ⟨g, o, 0, rfl, rfl, Nat.le_refl _, h3.lt, by simp [cmC], by unfold maxLen; omega, fun j u hj => by simp [cmC] at hj, fun j hj => by omega, fun u hu => by simp [cmC] at hu⟩
    · exact .inr ⟨g, o + 2, cap - 1, rfl, cmC_len _, by omega, hb⟩
/-- A lane whose row is another one. -/
theorem LnAt.setRow {w : World} {b gh : Nat} {rv v' : Value} {l : Ln} {r : List Cm} (h : LnAt w b gh rv l) (hr : RowA w 2 v' r.length (cmC r)) (ho : v'.ownBlock = rv.ownBlock) (hn : ∀ c ∈ r, c ∈ l.row) : LnAt (w.setCell ⟨b, 2, none⟩ v') b gh v' { l with row := r } ∧ Touch (fun k => k = b) w (w.setCell ⟨b, 2, none⟩ v') := by
  have hs : Touch (fun k => k = b) w (w.setCell ⟨b, 2, none⟩ v') := (Touch.refl (fun k => k = b) w).setCell ⟨b, 2, none⟩ (fun _ => rfl) _
  refine ⟨⟨?_, h.held.touch hs (fun e => h.off.1 e), hr.touch hs (fun g hg e => h.off.2.1 (by rw [← ho, hg, e])), fun c hc => h.nums c (hn c hc), h.off.1, by rw [ho]; exact h.off.2.1, by rw [ho]; exact h.off.2.2⟩, hs⟩
  have := set_at h.head 2 v'
  simpa using this
end Go.Proofs.YtmchmlkbpocboaaGreatDoor
