/- The reference's tape: Crash, the walk. -/
import Derived.Test.YtkdcknkgfgkoaaaGreatDoorZRefL
set_option linter.unusedSimpArgs false
set_option linter.unusedVariables false
set_option linter.unnecessarySimpa false
namespace Go.Proofs.YtkdcknkgfgkoaaaGreatDoor
open Go.RowKit

theorem cr_app1 {V0 w4 : World} {E0 : Obj} {N : Nat} {d : List UInt8} (hd : d.length = N) {v4 : Value} (hrow4 : RowIs w4 1 v4 (0 + N) ([] ++ bc d)) (hg4 : (V0.alloc E0).grownBy w4 (Value.slice (some ⟨V0.heap.size, 0, none⟩) 0 0).ownBlock) (hor4 : v4.ownBlock = (Value.slice (some ⟨V0.heap.size, 0, none⟩) 0 0).ownBlock ∨ v4.ownBlock = some (V0.alloc E0).heap.size) :
    ∃ g4 c4, v4 = .slice (some ⟨g4, 0, none⟩) N c4 ∧ V0.heap.size ≤ g4 ∧ RowIs w4 1 (.slice (some ⟨g4, 0, none⟩) N c4) N (bc d) ∧ Below V0.heap.size V0 w4 := by
  rw [List.nil_append, Nat.zero_add] at hrow4
  obtain ⟨g4, eg, hg⟩ : ∃ g4, v4.ownBlock = some g4 ∧ V0.heap.size ≤ g4 := by
    rcases hor4 with e | e
    · exact ⟨V0.heap.size, e, Nat.le_refl _⟩
    · exact ⟨_, e, by rw [asz]; omega⟩
  obtain ⟨c4, rfl⟩ := row_some hrow4 eg
  exact ⟨g4, c4, rfl, hg, hrow4, (below_new E0).grown hg4 (by rw [asz]; omega) (fun k hk => by cases hk; exact Nat.le_refl _)⟩
theorem cr_app2 {w V0 w4 w5 : World} {R : RTp} {ks : List Int} {c k : Nat} {C : RTp} (h : CrIn w R ks c k C V0) (hc : w.heap.size ≤ c) {x : RSeg} (hx : R.L[k]? = some x) {N : Nat} (hn : lastS x.ab (ks[k]?.getD 0) = N) (h0 : N ≠ 0) (hxs : x.s ≤ x.b.length) (htk : (x.b.take N).length = N) {g4 c4 : Nat} (hg4 : V0.heap.size ≤ g4) (hrow4 : RowIs w4 1 (.slice (some ⟨g4, 0, none⟩) N c4) N (bc (x.b.take N))) (hb4 : Below V0.heap.size V0 w4) {SEG : Obj} {v5 : Value}
    (hrow5 : RowIs w5 3 v5 (C.L.length + 1) (C.L.flatMap RSeg.cells ++ [.int .i64 x.n, .slice (some ⟨g4, 0, none⟩) N c4, .int .i64 (N : Int)])) (hg5 : (w4.alloc SEG).grownBy w5 C.v.ownBlock) (hor5 : v5.ownBlock = C.v.ownBlock ∨ v5.ownBlock = some (w4.alloc SEG).heap.size) :
    (∃ C', CrIn w R ks c (k + 1) C' (w5.setCell ⟨c, 1, none⟩ v5)) ∧ (∃ A5 c5, v5 = .slice A5 (C.L.length + 1) c5) ∧ ∀ i, i < V0.heap.size → C.v.ownBlock ≠ some i → w5.heap[i]? = V0.heap[i]? := by
  have hCl : ∀ i, C.v.ownBlock = some i → i < V0.heap.size := fun i hi => h.ref.row.lt i hi
  have hg4l : g4 < w4.heap.size := hrow4.lt g4 rfl
  have hne : C.v.ownBlock ≠ some g4 := fun e => by have := hCl g4 e; omega
  have hs5 := hg5.size
  rw [asz] at hs5
  have hkeep : ∀ i, i < V0.heap.size → C.v.ownBlock ≠ some i → w5.heap[i]? = V0.heap[i]? := fun i hi hne => by
    have h4 := hb4.size
    exact ((hg5.block i (by rw [asz]; omega) (fun e => hne e.symm)).trans (Below.heap_alloc w4 SEG i (by omega))).trans (hb4.block i hi)
  have hT : Touch (fun i => C.v.ownBlock = some i) V0 w5 := ⟨hg5.os.trans hb4.os, hg5.tape.trans hb4.tape, hg5.output.trans hb4.output, by have := hb4.size; omega, fun i hi hn => hkeep i hi hn⟩
  have hrowb : RowIs w5 1 (.slice (some ⟨g4, 0, none⟩) N c4) N (bc (x.b.take N)) := (hrow4.below (below_new SEG)).keep (by rw [asz]; omega) (fun i hi => hg5.block i (by cases hi; rw [asz]; exact Nat.lt_succ_of_lt hg4l) (fun e => by cases hi; exact hne e.symm))
  have hbis : BIs w5 (.slice (some ⟨g4, 0, none⟩) N c4) (x.b.take N) := row_bis (by rw [htk]; exact hrowb)
  obtain ⟨A5, c5, e5, _⟩ := hrow5.form
  refine ⟨h.add hc hx hn h0 hxs hT hbis hg4 hrow5 ?_ ?_ (by omega), ⟨A5, c5, e5⟩, hkeep⟩
  · rcases hor5 with e | e
    · exact .inl e
    · exact .inr ⟨_, e, by rw [asz]; have := hb4.size; omega⟩
  · intro e
    rcases hor5 with e2 | e2
    · exact hne (by rw [← e2]; exact e)
    · rw [e2, asz] at e
      injection e with e
      omega

set_option maxRecDepth 100000 in
set_option maxHeartbeats 4000000 in
theorem rcrash_any {w : World} {r : Nat} {R : RTp} (hR : RefOk w r R) {kv : Value} {ks : List Int} (hks : IIs w kv ks) (hrng : ∀ k ∈ ks, -9223372036854775808 ≤ k ∧ k ≤ 9223372036854775807) : Calls Tryz.prog 47 #[.pointer (some ⟨r, 0, none⟩), kv] w (RCrashP w R ks) := by
  obtain ⟨A, cap, ev, hc2, hc1, HC⟩ := hR.cells
  obtain ⟨mr, emr, hmr⟩ := hR.room
  have c0 : w.cell? ⟨r, 0, none⟩ = some (.int .i64 (mr : Int)) := by rw [cell_of hR.ref.head 0, ← emr]; rfl
  have HNEW := Lib.hid (rnew_any (w := w) (mr : Int))
  rw [← emr] at HNEW
  obtain ⟨Ak, ck, rfl, hk1, hk2, hk3⟩ := hks
  have HK3 := Lib.hid (fun (i : Nat) (x : Int) (h : ks[i]? = some x) (W : World) (hW : Below w.heap.size w W) => (by
    obtain ⟨a, q1, q2, q3⟩ := hk3 i x h
    exact ⟨a, q1, (hW.cell (p := a.add i) (by rw [add_block]; exact q2)).trans q3⟩ : ∃ a : Addr, Ak = some a ∧ W.cell? (a.add i) = some (.int .i64 x)))
  have HSEG := Lib.hid (fun (i : Nat) (x : RSeg) (hx : R.L[i]? = some x) (W : World) (hW : Below w.heap.size w W) => (by
    obtain ⟨g, e, hg, k0, k1, k2⟩ := hR.ref.seg3 ev hx
    exact ⟨g, e, (hW.cell (p := ⟨g, i * 3, none⟩) hg).trans k0, (hW.cell (p := ⟨g, i * 3 + 1, none⟩) hg).trans k1, (hW.cell (p := ⟨g, i * 3 + 2, none⟩) hg).trans k2⟩ : ∃ g, A = some ⟨g, 0, none⟩ ∧ W.cell? ⟨g, i * 3, none⟩ = some (.int .i64 x.n) ∧ W.cell? ⟨g, i * 3 + 1, none⟩ = some x.v ∧ W.cell? ⟨g, i * 3 + 2, none⟩ = some (.int .i64 (x.s : Int))))
  have H := Lib.hid hR
  have HRN := Lib.hid hrng
  have HCH := Lib.hid HC
  unfold maxLen at hk2
  have hcm : (R.room : Int) = (mr : Int) := emr
  have EMR := Lib.hid emr
  clear hR hk3 hrng HC ev emr hcm
  go_enter Tryz.func47, Tryz.ntmps47
  go_wp2_with fail
  rw [EMR.out] at HNEW
  refine (HNEW.out).mono ?_
  rintro e w1 ⟨rfl, hn1, hb1⟩
  rw [← EMR.out] at hn1
  have HST := Lib.hid (crIn_start (R := R) ks hn1 hb1)
  have kc := (HCH.out _ hb1).1
  clear hn1 hb1
  go_wp2_with fail
  go_loopw [19] (fun i wr => ∃ (k : Nat) (C : RTp), k ≤ R.L.length ∧ i = .int .i64 k ∧ CrIn w R ks w.heap.size k C wr) (fun i _ => R.L.length - (intOf i).toNat)
  case atStart => exact ⟨0, _, by omega, rfl, HST.out⟩
  case round =>
    obtain ⟨k, C, hk, rfl, hinv⟩ := hrel
    have HV := Lib.hid hinv
    clear hinv HST kc
    by_cases hlt : k < R.L.length
    · have hxk : R.L[k]? = some R.L[k] := List.getElem?_eq_getElem hlt
      obtain ⟨g, rfl, k0, k1, k2⟩ := HSEG.out k _ hxk wr HV.out.below
      obtain ⟨gx, nx, cx, ex, _⟩ := H.out.base _ (List.getElem_mem hlt)
      have HBX := Lib.hid ((H.out.ref.segs _ (List.getElem_mem hlt)).1.below HV.out.below)
      have HXS := Lib.hid (H.out.ref.segs _ (List.getElem_mem hlt)).2
      have HX := Lib.hid hxk
      generalize R.L[k] = x at *
      obtain ⟨A3, c3, e3, hx1, hx2, _⟩ := HBX.out
      rw [ex] at e3
      injection e3 with e3 e4 e5
      subst e4
      subst e5
      rw [ex] at k1
      have EX := Lib.hid ex
      have ha : (⟨g, 0, none⟩ : Addr).add (k * 3) = ⟨g, k * 3, none⟩ := add0 _ _
      have hxs : x.s ≤ x.b.length := HXS.out
      have HLX : Hid (x.b.length ≤ 1048576) := by have := (H.out.hitLen HX.out).2; have := H.out.used; show _ ≤ _; omega
      have hlx := HLX.out
      unfold maxLen at hx2
      replace hlt : (k : Int) < (R.L.length : Int) := by omega
      clear hxk ex e3
      go_upto_region 6 with fail
      go_cut [34] (fun b wx => b = .bool (decide (0 < ks[k]?.getD 0)) ∧ wr.alloc (.cells #[.int .i64 x.n, .slice (some ⟨gx, 0, none⟩) x.b.length cx, .int .i64 (x.s : Int)] 108) = wx)
      case first =>
        by_cases hkl : k < ks.length
        · have hkk : ks[k]? = some ks[k] := List.getElem?_eq_getElem hkl
          obtain ⟨ak, rfl, hck⟩ := HK3.out k _ hkk wr HV.out.below
          obtain ⟨ak2, e2, hck2⟩ := HK3.out k _ hkk (wr.alloc (.cells #[.int .i64 x.n, .slice (some ⟨gx, 0, none⟩) x.b.length cx, .int .i64 (x.s : Int)] 108)) (HV.out.below.trans ((below_new _).mono HV.out.below.size))
          injection e2 with e2
          subst e2
          have EK : Hid (ks[k]?.getD 0 = ks[k]) := by show _ = _; rw [hkk]; rfl
          have hrk := HRN.out _ (List.getElem_mem hkl)
          generalize ks[k] = kj at *
          replace hkl : (k : Int) < (ks.length : Int) := by omega
          clear hkk
          by_cases hpos : 0 < kj
          · go_wp2_with fail
            go_meet
            exact ⟨by rw [EK.out, decide_eq_true hpos], rfl⟩
          · go_wp2_with fail
            go_meet
            exact ⟨by rw [EK.out, decide_eq_false (show ¬ 0 < kj by omega)], rfl⟩
        · have EK : Hid (ks[k]?.getD 0 = 0) := by show _ = _; rw [List.getElem?_eq_none (by omega)]; rfl
          replace hkl : ¬ (k : Int) < (ks.length : Int) := by omega
          go_wp2_with fail
          go_meet
          exact ⟨by rw [EK.out]; rfl, rfl⟩
      case rest =>
        obtain ⟨rfl, rfl⟩ := hcut
        have hB1 : Below w.heap.size w (wr.alloc (.cells #[.int .i64 x.n, .slice (some ⟨gx, 0, none⟩) x.b.length cx, .int .i64 (x.s : Int)] 108)) := HV.out.below.trans ((below_new _).mono HV.out.below.size)
        go_upto_if 34 with fail
        go_cut [8] (fun n wx => n = .int .i64 (((ks[k]?.getD 0).toNat : Nat) : Int) ∧ wr.alloc (.cells #[.int .i64 x.n, .slice (some ⟨gx, 0, none⟩) x.b.length cx, .int .i64 (x.s : Int)] 108) = wx)
        case first =>
          by_cases hpos : 0 < ks[k]?.getD 0
          · have hkl : k < ks.length := by
              rcases Nat.lt_or_ge k ks.length with h | h
              · exact h
              · rw [List.getElem?_eq_none h] at hpos; exact absurd hpos (by decide)
            have hkk : ks[k]? = some ks[k] := List.getElem?_eq_getElem hkl
            obtain ⟨ak, rfl, hck2⟩ := HK3.out k _ hkk _ hB1
            have EK : Hid (ks[k]?.getD 0 = ks[k]) := by show _ = _; rw [hkk]; rfl
            have EK2 : Hid (((ks[k].toNat : Nat) : Int) = ks[k]) := by show _ = _; rw [EK.out] at hpos; omega
            rw [EK.out] at hpos ⊢
            generalize ks[k] = kj at *
            replace hkl : (k : Int) < (ks.length : Int) := by omega
            clear hkk hB1
            go_wp2_with fail
            go_meet
            exact ⟨by rw [EK.out, EK2.out], rfl⟩
          · have EK2 : Hid ((((ks[k]?.getD 0).toNat : Nat) : Int) = 0) := by show _ = _; omega
            clear hB1
            go_wp2_with fail
            go_meet
            exact ⟨by rw [EK2.out], rfl⟩
        case rest =>
          obtain ⟨rfl, rfl⟩ := hcut
          have HLS : Hid (lastS x.ab (ks[k]?.getD 0) = x.s + min (ks[k]?.getD 0).toNat (x.b.length - x.s)) := rfl
          have hkj : (ks[k]?.getD 0).toNat ≤ 9223372036854775807 := by
            cases hkk : ks[k]? with
            | none => simp
            | some v => have := HRN.out v (List.mem_of_getElem? hkk); simp; omega
          generalize (ks[k]?.getD 0).toNat = kn at *
          generalize hLN : lastS x.ab (ks[k]?.getD 0) = N at *
          have HLN := Lib.hid hLN
          have q1 : IntKind.i64.wrap ((x.b.length : Int) - (x.s : Int)) = (x.b.length : Int) - (x.s : Int) := IntWalk.i64_in _ (by omega)
          clear hLN hB1
          go_upto_if 46 with fail
          go_cut [8] (fun n wx => n = .int .i64 ((min kn (x.b.length - x.s) : Nat) : Int) ∧ wr.alloc (.cells #[.int .i64 x.n, .slice (some ⟨gx, 0, none⟩) x.b.length cx, .int .i64 (x.s : Int)] 108) = wx)
          case first =>
            by_cases hgt : (x.b.length : Int) - (x.s : Int) < (kn : Int)
            · have EM : Hid (((min kn (x.b.length - x.s) : Nat) : Int) = (x.b.length : Int) - (x.s : Int)) := by show _ = _; omega
              go_wp2_with fail
              go_meet
              exact ⟨by rw [EM.out], rfl⟩
            · have EM : Hid (((min kn (x.b.length - x.s) : Nat) : Int) = (kn : Int)) := by show _ = _; omega
              go_wp2_with fail
              go_meet
              exact ⟨by rw [EM.out], rfl⟩
          case rest =>
            obtain ⟨rfl, rfl⟩ := hcut
            have hN1 : Hid (((min kn (x.b.length - x.s) : Nat) : Int) + (x.s : Int) = (N : Int)) := by show _ = _; rw [HLS.out]; omega
            have hN2 : N ≤ x.b.length := by rw [HLS.out]; omega
            have hmm : (min kn (x.b.length - x.s) : Nat) ≤ x.b.length - x.s := Nat.min_le_right _ _
            generalize min kn (x.b.length - x.s) = mm at *
            have hs1 : (mm : Int) + (x.s : Int) ≤ 1048576 := by omega
            clear q1
            go_upto_region 10 with fail
            go_cut [8] (fun n wx => n = .int .i64 (N : Int) ∧ wr.alloc (.cells #[.int .i64 x.n, .slice (some ⟨gx, 0, none⟩) x.b.length cx, .int .i64 (x.s : Int)] 108) = wx)
            case first =>
              go_wp2_with fail
              go_meet
              exact ⟨by rw [hN1.out], rfl⟩
            case rest =>
            obtain ⟨rfl, rfl⟩ := hcut
            clear hmm hs1
            by_cases hN0 : N = 0
            · have HSK := Lib.hid ((HV.out.skip HX.out (HLN.out.trans hN0)).keep (below_new (.cells #[.int .i64 x.n, .slice (some ⟨gx, 0, none⟩) x.b.length cx, .int .i64 (x.s : Int)] 108)))
              have hN0' : ¬ (0 : Int) < (N : Int) := by omega
              clear hN0
              go_wp2_with fail
              go_roundw
              case rel => exact ⟨k + 1, C, by omega, by go_num, HSK.out⟩
              case measure => simp [intOf]; omega
            · have hN0' : (0 : Int) < (N : Int) := by omega
              have HN0 := Lib.hid hN0
              clear hN0
              go_wp2_with fail
              have hC0 := HV.out.keep (below_drew (below_new (w := wr) (.cells #[.int .i64 x.n, .slice (some ⟨gx, 0, none⟩) x.b.length cx, .int .i64 (x.s : Int)] 108)))
              have hbx := alloc_at wr (.cells #[.int .i64 x.n, .slice (some ⟨gx, 0, none⟩) x.b.length cx, .int .i64 (x.s : Int)] 108)
              have d0 : ((wr.alloc (.cells #[.int .i64 x.n, .slice (some ⟨gx, 0, none⟩) x.b.length cx, .int .i64 (x.s : Int)] 108)).drew).cell? ⟨wr.heap.size, 0, none⟩ = some (.int .i64 x.n) := cell_of (W := (wr.alloc (.cells #[.int .i64 x.n, .slice (some ⟨gx, 0, none⟩) x.b.length cx, .int .i64 (x.s : Int)] 108)).drew) hbx 0
              have d1 : ((wr.alloc (.cells #[.int .i64 x.n, .slice (some ⟨gx, 0, none⟩) x.b.length cx, .int .i64 (x.s : Int)] 108)).drew).cell? ⟨wr.heap.size, 1, none⟩ = some (.slice (some ⟨gx, 0, none⟩) x.b.length cx) := cell_of (W := (wr.alloc (.cells #[.int .i64 x.n, .slice (some ⟨gx, 0, none⟩) x.b.length cx, .int .i64 (x.s : Int)] 108)).drew) hbx 1
              have hsz0 : wr.heap.size < ((wr.alloc (.cells #[.int .i64 x.n, .slice (some ⟨gx, 0, none⟩) x.b.length cx, .int .i64 (x.s : Int)] 108)).drew).heap.size := by show _ < (wr.alloc (.cells #[.int .i64 x.n, .slice (some ⟨gx, 0, none⟩) x.b.length cx, .int .i64 (x.s : Int)] 108)).heap.size; rw [asz]; omega
              have HCN : Hid (C.v.ownBlock ≠ some wr.heap.size) := fun e => by have := HV.out.ref.row.lt _ e; omega
              have HWC : Hid (w.heap.size ≠ wr.heap.size) := by have := heap_lt HV.out.ref.head; show _ ≠ _; omega
              have HTK : Hid ((x.b.take N).length = N) := by show _ = _; rw [List.length_take]; omega
              have HNL : Hid (N ≤ 1048576) := by show _ ≤ _; omega
              have HCL : Hid (C.L.length ≤ 1000) := by
                have h1 := crI_len (absR R.L) ks k
                rw [← HV.out.abs] at h1
                unfold absR at h1
                rw [List.length_map] at h1
                have := H.out.few
                show _ ≤ _
                omega
              have hbt : BIs ((wr.alloc (.cells #[.int .i64 x.n, .slice (some ⟨gx, 0, none⟩) x.b.length cx, .int .i64 (x.s : Int)] 108)).drew) (.slice (some ⟨gx, 0, none⟩) N cx) (x.b.take N) := by
                have hb := HBX.out.below (below_drew (below_new (w := wr) (.cells #[.int .i64 x.n, .slice (some ⟨gx, 0, none⟩) x.b.length cx, .int .i64 (x.s : Int)] 108)))
                obtain ⟨A2, cc2, e2, p1, p2, p3⟩ := hb
                rw [EX.out] at e2
                injection e2 with e2 _ e3
                subst e2
                subst e3
                refine ⟨_, cx, by rw [HTK.out], by rw [HTK.out]; omega, p2, fun i u hi => ?_⟩
                rw [List.getElem?_take] at hi
                split at hi
                · exact p3 i u hi
                · cases hi
              clear hbx
              refine wp_region_held_drew (S := (fun W => W.cell? ⟨wr.heap.size, 0, none⟩ = some (.int .i64 x.n) ∧ W.cell? ⟨wr.heap.size, 1, none⟩ = some (.slice (some ⟨gx, 0, none⟩) x.b.length cx))) (by kernel_rfl) ⟨d0, d1⟩ (fun hHeld => ?_)
              generalize (wr.alloc (.cells #[.int .i64 x.n, .slice (some ⟨gx, 0, none⟩) x.b.length cx, .int .i64 (x.s : Int)] 108)).drew = V0 at *
              have b0 := d0
              have b1 := d1
              have HC0 := Lib.hid hC0
              have HCX : Hid (w.heap.size < V0.heap.size) := heap_lt hC0.ref.head
              have HBX : Hid (wr.heap.size < V0.heap.size) := hsz0
              obtain ⟨AC, cC, eCV, hC1, hC2, _⟩ := hC0.ref.row.form
              have cL0 := cell_of hC0.ref.head 1
              replace cL0 : V0.cell? ⟨w.heap.size, 1, none⟩ = some (.slice AC C.L.length cC) := by rw [cL0, ← eCV]; rfl
              have ECV := Lib.hid eCV
              have s1a := cell_old b0 HBX.out (.cells #[] 5)
              have s1b := cell_old b1 HBX.out (.cells #[] 5)
              have cL1 := cell_old cL0 HCX.out (.cells #[] 5)
              have HROW := Lib.hid (row_empty V0 5)
              have hsrc := ((hbt.below (below_new (.cells #[] 5)))).src
              rw [HTK.out] at hsrc
              have HSRC := Lib.hid hsrc
              have hNc : (N : Int) ≤ (cx : Int) := by omega
              have hNcn : N ≤ cx := by omega
              clear hC0 d0 d1 eCV hbt hsz0 hsrc
              refine wpAnyH_take (i := 0) (v := ?_) rfl (by kernel_rfl) (by kernel_rfl) (by kernel_rfl) (fun _ _ _ h => h) (Or.inl ⟨by rfl, ?_⟩) (by assumption) ?_
              rotate_left 1
              · (intro wq hSw; (try dsimp only at hSw); go_simp; try with_reducible rfl)
              (try dsimp only)
              (try simp only [List.getElem_toArray, List.getElem_cons_succ, List.getElem_cons_zero, Act.put, List.setIfInBounds_toArray, List.set_cons_zero, List.set_cons_succ])
              refine wpAnyH_take (i := 1) (v := ?_) rfl (by kernel_rfl) (by kernel_rfl) (by kernel_rfl) (fun _ _ _ h => h) (Or.inl ⟨by rfl, ?_⟩) (by assumption) ?_
              rotate_left 1
              · (intro wq hSw; (try dsimp only at hSw); go_simp; try with_reducible rfl)
              (try dsimp only)
              (try simp only [List.getElem_toArray, List.getElem_cons_succ, List.getElem_cons_zero, Act.put, List.setIfInBounds_toArray, List.set_cons_zero, List.set_cons_succ])
              refine wpAnyH_take (i := 2) (v := ?_) rfl (by kernel_rfl) (by kernel_rfl) (by kernel_rfl) (fun _ _ _ h => h) (Or.inl ⟨by rfl, ?_⟩) (by assumption) ?_
              rotate_left 1
              · (intro wq hSw; (try dsimp only at hSw); go_simp; try with_reducible rfl)
              (try dsimp only)
              (try simp only [List.getElem_toArray, List.getElem_cons_succ, List.getElem_cons_zero, Act.put, List.setIfInBounds_toArray, List.set_cons_zero, List.set_cons_succ])
              refine wpAnyH_take (i := 3) (v := ?_) rfl (by kernel_rfl) (by kernel_rfl) (by kernel_rfl) (fun _ _ _ h => h) (Or.inl ⟨by rfl, ?_⟩) (by assumption) ?_
              rotate_left 1
              · (intro wq hSw; (try dsimp only at hSw); go_simp; try with_reducible rfl)
              (try dsimp only)
              (try simp only [List.getElem_toArray, List.getElem_cons_succ, List.getElem_cons_zero, Act.put, List.setIfInBounds_toArray, List.set_cons_zero, List.set_cons_succ])
              refine wpAnyH_take (i := 5) (v := ?_) rfl (by kernel_rfl) (by kernel_rfl) (by kernel_rfl) (fun _ _ _ h => h) (Or.inl ⟨by rfl, ?_⟩) (by assumption) ?_
              rotate_left 1
              · (intro wq hSw; (try dsimp only at hSw); go_simp; try with_reducible rfl)
              (try dsimp only)
              (try simp only [List.getElem_toArray, List.getElem_cons_succ, List.getElem_cons_zero, Act.put, List.setIfInBounds_toArray, List.set_cons_zero, List.set_cons_succ])
              refine wpAnyH_take (i := 6) (v := ?_) rfl (by kernel_rfl) (by kernel_rfl) (by kernel_rfl) (fun _ _ _ h => h) (Or.inl ⟨by rfl, ?_⟩) (by assumption) ?_
              rotate_left 1
              · (intro wq hSw; (try dsimp only at hSw); go_simp; try with_reducible rfl)
              (try dsimp only)
              (try simp only [List.getElem_toArray, List.getElem_cons_succ, List.getElem_cons_zero, Act.put, List.setIfInBounds_toArray, List.set_cons_zero, List.set_cons_succ])
              refine wpAnyH_take (i := 8) (v := ?_) rfl (by kernel_rfl) (by kernel_rfl) (by kernel_rfl) (fun _ _ _ h => h) (Or.inl ⟨by rfl, ?_⟩) (by assumption) ?_
              rotate_left 1
              · (intro wq hSw; (try dsimp only at hSw); go_simp; try with_reducible rfl)
              (try dsimp only)
              (try simp only [List.getElem_toArray, List.getElem_cons_succ, List.getElem_cons_zero, Act.put, List.setIfInBounds_toArray, List.set_cons_zero, List.set_cons_succ])
              refine wpAnyH_take (i := 9) (v := ?_) rfl (by kernel_rfl) (by kernel_rfl) (by kernel_rfl) (fun _ _ _ h => h) (Or.inl ⟨by rfl, ?_⟩) (by assumption) ?_
              rotate_left 1
              · (intro wq hSw; (try dsimp only at hSw); go_simp; try with_reducible rfl)
              (try dsimp only)
              (try simp only [List.getElem_toArray, List.getElem_cons_succ, List.getElem_cons_zero, Act.put, List.setIfInBounds_toArray, List.set_cons_zero, List.set_cons_succ])
              refine wpAnyH_take (i := 10) (v := ?_) rfl (by kernel_rfl) (by kernel_rfl) (by kernel_rfl) (fun _ _ _ h => h) (Or.inl ⟨by rfl, ?_⟩) (by assumption) ?_
              rotate_left 1
              · (intro wq hSw; (try dsimp only at hSw); go_simp; try with_reducible rfl)
              (try dsimp only)
              (try simp only [List.getElem_toArray, List.getElem_cons_succ, List.getElem_cons_zero, Act.put, List.setIfInBounds_toArray, List.set_cons_zero, List.set_cons_succ])
              refine wpAnyH_take (i := 11) (v := ?_) rfl (by kernel_rfl) (by kernel_rfl) (by kernel_rfl) (fun _ _ _ h => h) (Or.inl ⟨by rfl, ?_⟩) (by assumption) ?_
              rotate_left 1
              · (intro wq hSw; (try dsimp only at hSw); go_simp; try with_reducible rfl)
              (try dsimp only)
              (try simp only [List.getElem_toArray, List.getElem_cons_succ, List.getElem_cons_zero, Act.put, List.setIfInBounds_toArray, List.set_cons_zero, List.set_cons_succ])
              refine wpAnyH_take (i := 13) (v := ?_) rfl (by kernel_rfl) (by kernel_rfl) (by kernel_rfl) (fun _ _ _ h => h) (Or.inl ⟨by rfl, ?_⟩) (by assumption) ?_
              rotate_left 1
              · (intro wq hSw; (try dsimp only at hSw); go_simp; try with_reducible rfl)
              (try dsimp only)
              (try simp only [List.getElem_toArray, List.getElem_cons_succ, List.getElem_cons_zero, Act.put, List.setIfInBounds_toArray, List.set_cons_zero, List.set_cons_succ])
              refine wpAnyH_ready (rs := [4, 7]) (by kernel_rfl) (by simp) ?_
              refine AllReadyH.cons rfl (fun K hK => ?_) (AllReadyH.cons rfl (fun K hK => ?_) AllReadyH.nil)
              · go_simp
                refine hK.out _ _ (by first | assumption | exact ⟨by assumption, by assumption⟩) (fun hHeld => ?_)
                clear hK K
                (try dsimp only)
                (try simp only [List.getElem_toArray, List.getElem_cons_succ, List.getElem_cons_zero, Act.put, List.setIfInBounds_toArray, List.set_cons_zero, List.set_cons_succ])
                refine wpAnyH_ready (rs := [7]) (by kernel_rfl) (by simp) ?_
                refine AllReadyH.cons rfl (fun K hK => ?_) AllReadyH.nil
                go_simp
                refine hK.out _ _ (by first | assumption | exact ⟨by assumption, by assumption⟩) (fun hHeld => ?_)
                clear hK K
                (try dsimp only)
                (try simp only [List.getElem_toArray, List.getElem_cons_succ, List.getElem_cons_zero, Act.put, List.setIfInBounds_toArray, List.set_cons_zero, List.set_cons_succ])
                refine wpAnyH_ready (rs := [12]) (by kernel_rfl) (by simp) ?_
                refine AllReadyH.cons rfl (fun K hK => ?_) AllReadyH.nil
                refine step_append_row 32 5 Tryz.underlying32 rinfo5 rfl (by decide) (by decide) rfl _ _ 32 rfl 0 N [] (bc (x.b.take N)) _ _ rfl rfl HROW.out HSRC.out (by have := HNL.out; omega) ?_
                intro v4 w4 hrow4 hg4 hor4
                obtain ⟨g4, c4, rfl, hg4l, hrow4', hb4⟩ := cr_app1 HTK.out hrow4 hg4 hor4
                have hs4 := hb4.size
                have s2a := (hb4.cell (p := ⟨wr.heap.size, 0, none⟩) HBX.out).trans b0
                have s2b := (hb4.cell (p := ⟨wr.heap.size, 1, none⟩) HBX.out).trans b1
                have cL2 := (hb4.cell (p := ⟨w.heap.size, 1, none⟩) HCX.out).trans cL0
                have SEG4 : Obj := (.cells #[.int .i64 x.n, .slice (some ⟨g4, 0, none⟩) N c4, .int .i64 (N : Int)] 108)
                have s3a := cell_old s2a (Nat.lt_of_lt_of_le HBX.out hs4) (.cells #[.int .i64 x.n, .slice (some ⟨g4, 0, none⟩) N c4, .int .i64 (N : Int)] 108)
                have s3b := cell_old s2b (Nat.lt_of_lt_of_le HBX.out hs4) (.cells #[.int .i64 x.n, .slice (some ⟨g4, 0, none⟩) N c4, .int .i64 (N : Int)] 108)
                have cL3 := cell_old cL2 (Nat.lt_of_lt_of_le HCX.out hs4) (.cells #[.int .i64 x.n, .slice (some ⟨g4, 0, none⟩) N c4, .int .i64 (N : Int)] 108)
                have HROW5 := Lib.hid ((HC0.out.ref.below hb4).row.below (below_new (.cells #[.int .i64 x.n, .slice (some ⟨g4, 0, none⟩) N c4, .int .i64 (N : Int)] 108)))
                rw [ECV.out] at HROW5
                have HSRC5 := Lib.hid (src_seg (W := w4) x.n (N : Int) (some ⟨g4, 0, none⟩) N c4)
                have HROW4 := Lib.hid hrow4'
                have HB4 := Lib.hid hb4
                have HG4 : Hid (V0.heap.size ≤ g4) := hg4l
                clear hrow4 hg4 hor4 hrow4' hb4 hg4l hs4 SEG4
                refine hK.out _ _ (by first | assumption | exact ⟨by assumption, by assumption⟩) (fun hHeld => ?_)
                clear hK K
                (try dsimp only)
                (try simp only [List.getElem_toArray, List.getElem_cons_succ, List.getElem_cons_zero, Act.put, List.setIfInBounds_toArray, List.set_cons_zero, List.set_cons_succ])
                refine wpAnyH_take (i := 14) (v := ?_) rfl (by kernel_rfl) (by kernel_rfl) (by kernel_rfl) (fun _ _ _ h => h) (Or.inl ⟨by rfl, ?_⟩) (by assumption) ?_
                rotate_left 1
                · (intro wq hSw; (try dsimp only at hSw); go_simp; try with_reducible rfl)
                (try dsimp only)
                (try simp only [List.getElem_toArray, List.getElem_cons_succ, List.getElem_cons_zero, Act.put, List.setIfInBounds_toArray, List.set_cons_zero, List.set_cons_succ])
                refine wpAnyH_ready (rs := [15]) (by kernel_rfl) (by simp) ?_
                refine AllReadyH.cons rfl (fun K hK => ?_) AllReadyH.nil
                go_simp
                refine hK.out _ _ (by first | assumption | exact ⟨by assumption, by assumption⟩) (fun hHeld => ?_)
                clear hK K
                (try dsimp only)
                (try simp only [List.getElem_toArray, List.getElem_cons_succ, List.getElem_cons_zero, Act.put, List.setIfInBounds_toArray, List.set_cons_zero, List.set_cons_succ])
                refine wpAnyH_ready (rs := [16]) (by kernel_rfl) (by simp) ?_
                refine AllReadyH.cons rfl (fun K hK => ?_) AllReadyH.nil
                refine step_append_row 79 108 Tryz.underlying79 infoSeg rfl (by decide) (by decide) rfl _ _ 79 rfl C.L.length 1 (C.L.flatMap RSeg.cells) [.int .i64 x.n, .slice (some ⟨g4, 0, none⟩) N c4, .int .i64 (N : Int)] _ _ rfl rfl HROW5.out HSRC5.out (by have := HCL.out; omega) ?_
                intro v5 w5 hrow5 hg5 hor5
                rw [← ECV.out] at hg5 hor5
                obtain ⟨hfin, ⟨A5, c5, rfl⟩, hk5⟩ := cr_app2 HC0.out (Nat.le_refl _) HX.out HLN.out HN0.out HXS.out HTK.out HG4.out HROW4.out HB4.out hrow5 hg5 hor5
                have HFIN := Lib.hid hfin
                have s4a := (World.cell?_of_block (a := ⟨wr.heap.size, 0, none⟩) (hk5 wr.heap.size HBX.out HCN.out)).trans b0
                have s4b := (World.cell?_of_block (a := ⟨wr.heap.size, 1, none⟩) (hk5 wr.heap.size HBX.out HCN.out)).trans b1
                have hh5 := (hk5 w.heap.size HCX.out (fun e => HC0.out.ref.own e)).trans HC0.out.ref.head
                have cL5 := cell_of hh5 1
                have f5 := free0 hh5 1
                simp at cL5
                have s5a : ((w5.setCell ⟨w.heap.size, 1, none⟩ (.slice A5 (C.L.length + 1) c5)).cell? ⟨wr.heap.size, 0, none⟩) = some (.int .i64 x.n) := (World.cell?_of_block (a := ⟨wr.heap.size, 0, none⟩) (Below.heap_setCell _ _ _ _ HWC.out.symm)).trans s4a
                have s5b : ((w5.setCell ⟨w.heap.size, 1, none⟩ (.slice A5 (C.L.length + 1) c5)).cell? ⟨wr.heap.size, 1, none⟩) = some (.slice (some ⟨gx, 0, none⟩) x.b.length cx) := (World.cell?_of_block (a := ⟨wr.heap.size, 1, none⟩) (Below.heap_setCell _ _ _ _ HWC.out.symm)).trans s4b
                clear hrow5 hg5 hor5 hfin hk5 hh5
                refine hK.out _ _ (by first | assumption | exact ⟨by assumption, by assumption⟩) (fun hHeld => ?_)
                clear hK K
                (try dsimp only)
                (try simp only [List.getElem_toArray, List.getElem_cons_succ, List.getElem_cons_zero, Act.put, List.setIfInBounds_toArray, List.set_cons_zero, List.set_cons_succ])
                refine wpAnyH_take (i := 17) (v := ?_) rfl (by kernel_rfl) (by kernel_rfl) (by kernel_rfl) (fun _ _ _ h => h) (Or.inl ⟨by rfl, ?_⟩) (by assumption) ?_
                rotate_left 1
                · (intro wq hSw; (try dsimp only at hSw); go_simp; try with_reducible rfl)
                (try dsimp only)
                (try simp only [List.getElem_toArray, List.getElem_cons_succ, List.getElem_cons_zero, Act.put, List.setIfInBounds_toArray, List.set_cons_zero, List.set_cons_succ])
                refine wpAnyH_take (i := 18) (v := ?_) rfl (by kernel_rfl) (by kernel_rfl) (by kernel_rfl) (fun _ _ _ h => h) (Or.inl ⟨by rfl, ?_⟩) (by assumption) ?_
                rotate_left 1
                · (intro wq hSw; (try dsimp only at hSw); go_simp; try with_reducible rfl)
                (try dsimp only)
                (try simp only [List.getElem_toArray, List.getElem_cons_succ, List.getElem_cons_zero, Act.put, List.setIfInBounds_toArray, List.set_cons_zero, List.set_cons_succ])
                refine wpAnyH_ready (rs := [19]) (by kernel_rfl) (by simp) ?_
                refine AllReadyH.cons rfl (fun K hK => ?_) AllReadyH.nil
                go_simp
                refine hK.out _ _ (by first | assumption | exact ⟨by assumption, by assumption⟩) (fun hHeld => ?_)
                clear hK K
                (try dsimp only)
                (try simp only [List.getElem_toArray, List.getElem_cons_succ, List.getElem_cons_zero, Act.put, List.setIfInBounds_toArray, List.set_cons_zero, List.set_cons_succ])
                refine wpAnyH_done (by kernel_rfl) ?_ _
                go_wp2_with fail
                go_roundw
                case rel =>
                  obtain ⟨C2, hC2⟩ := HFIN.out
                  exact ⟨k + 1, C2, by omega, by go_num, hC2⟩
                case measure => simp [intOf]; omega
              · go_simp
                refine hK.out _ _ (by first | assumption | exact ⟨by assumption, by assumption⟩) (fun hHeld => ?_)
                clear hK K
                (try dsimp only)
                (try simp only [List.getElem_toArray, List.getElem_cons_succ, List.getElem_cons_zero, Act.put, List.setIfInBounds_toArray, List.set_cons_zero, List.set_cons_succ])
                refine wpAnyH_ready (rs := [4, 12]) (by kernel_rfl) (by simp) ?_
                refine AllReadyH.cons rfl (fun K hK => ?_) (AllReadyH.cons rfl (fun K hK => ?_) AllReadyH.nil)
                · go_simp
                  refine hK.out _ _ (by first | assumption | exact ⟨by assumption, by assumption⟩) (fun hHeld => ?_)
                  clear hK K
                  (try dsimp only)
                  (try simp only [List.getElem_toArray, List.getElem_cons_succ, List.getElem_cons_zero, Act.put, List.setIfInBounds_toArray, List.set_cons_zero, List.set_cons_succ])
                  refine wpAnyH_ready (rs := [12]) (by kernel_rfl) (by simp) ?_
                  refine AllReadyH.cons rfl (fun K hK => ?_) AllReadyH.nil
                  refine step_append_row 32 5 Tryz.underlying32 rinfo5 rfl (by decide) (by decide) rfl _ _ 32 rfl 0 N [] (bc (x.b.take N)) _ _ rfl rfl HROW.out HSRC.out (by have := HNL.out; omega) ?_
                  intro v4 w4 hrow4 hg4 hor4
                  obtain ⟨g4, c4, rfl, hg4l, hrow4', hb4⟩ := cr_app1 HTK.out hrow4 hg4 hor4
                  have hs4 := hb4.size
                  have s2a := (hb4.cell (p := ⟨wr.heap.size, 0, none⟩) HBX.out).trans b0
                  have s2b := (hb4.cell (p := ⟨wr.heap.size, 1, none⟩) HBX.out).trans b1
                  have cL2 := (hb4.cell (p := ⟨w.heap.size, 1, none⟩) HCX.out).trans cL0
                  have SEG4 : Obj := (.cells #[.int .i64 x.n, .slice (some ⟨g4, 0, none⟩) N c4, .int .i64 (N : Int)] 108)
                  have s3a := cell_old s2a (Nat.lt_of_lt_of_le HBX.out hs4) (.cells #[.int .i64 x.n, .slice (some ⟨g4, 0, none⟩) N c4, .int .i64 (N : Int)] 108)
                  have s3b := cell_old s2b (Nat.lt_of_lt_of_le HBX.out hs4) (.cells #[.int .i64 x.n, .slice (some ⟨g4, 0, none⟩) N c4, .int .i64 (N : Int)] 108)
                  have cL3 := cell_old cL2 (Nat.lt_of_lt_of_le HCX.out hs4) (.cells #[.int .i64 x.n, .slice (some ⟨g4, 0, none⟩) N c4, .int .i64 (N : Int)] 108)
                  have HROW5 := Lib.hid ((HC0.out.ref.below hb4).row.below (below_new (.cells #[.int .i64 x.n, .slice (some ⟨g4, 0, none⟩) N c4, .int .i64 (N : Int)] 108)))
                  rw [ECV.out] at HROW5
                  have HSRC5 := Lib.hid (src_seg (W := w4) x.n (N : Int) (some ⟨g4, 0, none⟩) N c4)
                  have HROW4 := Lib.hid hrow4'
                  have HB4 := Lib.hid hb4
                  have HG4 : Hid (V0.heap.size ≤ g4) := hg4l
                  clear hrow4 hg4 hor4 hrow4' hb4 hg4l hs4 SEG4
                  refine hK.out _ _ (by first | assumption | exact ⟨by assumption, by assumption⟩) (fun hHeld => ?_)
                  clear hK K
                  (try dsimp only)
                  (try simp only [List.getElem_toArray, List.getElem_cons_succ, List.getElem_cons_zero, Act.put, List.setIfInBounds_toArray, List.set_cons_zero, List.set_cons_succ])
                  refine wpAnyH_take (i := 14) (v := ?_) rfl (by kernel_rfl) (by kernel_rfl) (by kernel_rfl) (fun _ _ _ h => h) (Or.inl ⟨by rfl, ?_⟩) (by assumption) ?_
                  rotate_left 1
                  · (intro wq hSw; (try dsimp only at hSw); go_simp; try with_reducible rfl)
                  (try dsimp only)
                  (try simp only [List.getElem_toArray, List.getElem_cons_succ, List.getElem_cons_zero, Act.put, List.setIfInBounds_toArray, List.set_cons_zero, List.set_cons_succ])
                  refine wpAnyH_ready (rs := [15]) (by kernel_rfl) (by simp) ?_
                  refine AllReadyH.cons rfl (fun K hK => ?_) AllReadyH.nil
                  go_simp
                  refine hK.out _ _ (by first | assumption | exact ⟨by assumption, by assumption⟩) (fun hHeld => ?_)
                  clear hK K
                  (try dsimp only)
                  (try simp only [List.getElem_toArray, List.getElem_cons_succ, List.getElem_cons_zero, Act.put, List.setIfInBounds_toArray, List.set_cons_zero, List.set_cons_succ])
                  refine wpAnyH_ready (rs := [16]) (by kernel_rfl) (by simp) ?_
                  refine AllReadyH.cons rfl (fun K hK => ?_) AllReadyH.nil
                  refine step_append_row 79 108 Tryz.underlying79 infoSeg rfl (by decide) (by decide) rfl _ _ 79 rfl C.L.length 1 (C.L.flatMap RSeg.cells) [.int .i64 x.n, .slice (some ⟨g4, 0, none⟩) N c4, .int .i64 (N : Int)] _ _ rfl rfl HROW5.out HSRC5.out (by have := HCL.out; omega) ?_
                  intro v5 w5 hrow5 hg5 hor5
                  rw [← ECV.out] at hg5 hor5
                  obtain ⟨hfin, ⟨A5, c5, rfl⟩, hk5⟩ := cr_app2 HC0.out (Nat.le_refl _) HX.out HLN.out HN0.out HXS.out HTK.out HG4.out HROW4.out HB4.out hrow5 hg5 hor5
                  have HFIN := Lib.hid hfin
                  have s4a := (World.cell?_of_block (a := ⟨wr.heap.size, 0, none⟩) (hk5 wr.heap.size HBX.out HCN.out)).trans b0
                  have s4b := (World.cell?_of_block (a := ⟨wr.heap.size, 1, none⟩) (hk5 wr.heap.size HBX.out HCN.out)).trans b1
                  have hh5 := (hk5 w.heap.size HCX.out (fun e => HC0.out.ref.own e)).trans HC0.out.ref.head
                  have cL5 := cell_of hh5 1
                  have f5 := free0 hh5 1
                  simp at cL5
                  have s5a : ((w5.setCell ⟨w.heap.size, 1, none⟩ (.slice A5 (C.L.length + 1) c5)).cell? ⟨wr.heap.size, 0, none⟩) = some (.int .i64 x.n) := (World.cell?_of_block (a := ⟨wr.heap.size, 0, none⟩) (Below.heap_setCell _ _ _ _ HWC.out.symm)).trans s4a
                  have s5b : ((w5.setCell ⟨w.heap.size, 1, none⟩ (.slice A5 (C.L.length + 1) c5)).cell? ⟨wr.heap.size, 1, none⟩) = some (.slice (some ⟨gx, 0, none⟩) x.b.length cx) := (World.cell?_of_block (a := ⟨wr.heap.size, 1, none⟩) (Below.heap_setCell _ _ _ _ HWC.out.symm)).trans s4b
                  clear hrow5 hg5 hor5 hfin hk5 hh5
                  refine hK.out _ _ (by first | assumption | exact ⟨by assumption, by assumption⟩) (fun hHeld => ?_)
                  clear hK K
                  (try dsimp only)
                  (try simp only [List.getElem_toArray, List.getElem_cons_succ, List.getElem_cons_zero, Act.put, List.setIfInBounds_toArray, List.set_cons_zero, List.set_cons_succ])
                  refine wpAnyH_take (i := 17) (v := ?_) rfl (by kernel_rfl) (by kernel_rfl) (by kernel_rfl) (fun _ _ _ h => h) (Or.inl ⟨by rfl, ?_⟩) (by assumption) ?_
                  rotate_left 1
                  · (intro wq hSw; (try dsimp only at hSw); go_simp; try with_reducible rfl)
                  (try dsimp only)
                  (try simp only [List.getElem_toArray, List.getElem_cons_succ, List.getElem_cons_zero, Act.put, List.setIfInBounds_toArray, List.set_cons_zero, List.set_cons_succ])
                  refine wpAnyH_take (i := 18) (v := ?_) rfl (by kernel_rfl) (by kernel_rfl) (by kernel_rfl) (fun _ _ _ h => h) (Or.inl ⟨by rfl, ?_⟩) (by assumption) ?_
                  rotate_left 1
                  · (intro wq hSw; (try dsimp only at hSw); go_simp; try with_reducible rfl)
                  (try dsimp only)
                  (try simp only [List.getElem_toArray, List.getElem_cons_succ, List.getElem_cons_zero, Act.put, List.setIfInBounds_toArray, List.set_cons_zero, List.set_cons_succ])
                  refine wpAnyH_ready (rs := [19]) (by kernel_rfl) (by simp) ?_
                  refine AllReadyH.cons rfl (fun K hK => ?_) AllReadyH.nil
                  go_simp
                  refine hK.out _ _ (by first | assumption | exact ⟨by assumption, by assumption⟩) (fun hHeld => ?_)
                  clear hK K
                  (try dsimp only)
                  (try simp only [List.getElem_toArray, List.getElem_cons_succ, List.getElem_cons_zero, Act.put, List.setIfInBounds_toArray, List.set_cons_zero, List.set_cons_succ])
                  refine wpAnyH_done (by kernel_rfl) ?_ _
                  go_wp2_with fail
                  go_roundw
                  case rel =>
                    obtain ⟨C2, hC2⟩ := HFIN.out
                    exact ⟨k + 1, C2, by omega, by go_num, hC2⟩
                  case measure => simp [intOf]; omega
                · refine step_append_row 32 5 Tryz.underlying32 rinfo5 rfl (by decide) (by decide) rfl _ _ 32 rfl 0 N [] (bc (x.b.take N)) _ _ rfl rfl HROW.out HSRC.out (by have := HNL.out; omega) ?_
                  intro v4 w4 hrow4 hg4 hor4
                  obtain ⟨g4, c4, rfl, hg4l, hrow4', hb4⟩ := cr_app1 HTK.out hrow4 hg4 hor4
                  have hs4 := hb4.size
                  have s2a := (hb4.cell (p := ⟨wr.heap.size, 0, none⟩) HBX.out).trans b0
                  have s2b := (hb4.cell (p := ⟨wr.heap.size, 1, none⟩) HBX.out).trans b1
                  have cL2 := (hb4.cell (p := ⟨w.heap.size, 1, none⟩) HCX.out).trans cL0
                  have SEG4 : Obj := (.cells #[.int .i64 x.n, .slice (some ⟨g4, 0, none⟩) N c4, .int .i64 (N : Int)] 108)
                  have s3a := cell_old s2a (Nat.lt_of_lt_of_le HBX.out hs4) (.cells #[.int .i64 x.n, .slice (some ⟨g4, 0, none⟩) N c4, .int .i64 (N : Int)] 108)
                  have s3b := cell_old s2b (Nat.lt_of_lt_of_le HBX.out hs4) (.cells #[.int .i64 x.n, .slice (some ⟨g4, 0, none⟩) N c4, .int .i64 (N : Int)] 108)
                  have cL3 := cell_old cL2 (Nat.lt_of_lt_of_le HCX.out hs4) (.cells #[.int .i64 x.n, .slice (some ⟨g4, 0, none⟩) N c4, .int .i64 (N : Int)] 108)
                  have HROW5 := Lib.hid ((HC0.out.ref.below hb4).row.below (below_new (.cells #[.int .i64 x.n, .slice (some ⟨g4, 0, none⟩) N c4, .int .i64 (N : Int)] 108)))
                  rw [ECV.out] at HROW5
                  have HSRC5 := Lib.hid (src_seg (W := w4) x.n (N : Int) (some ⟨g4, 0, none⟩) N c4)
                  have HROW4 := Lib.hid hrow4'
                  have HB4 := Lib.hid hb4
                  have HG4 : Hid (V0.heap.size ≤ g4) := hg4l
                  clear hrow4 hg4 hor4 hrow4' hb4 hg4l hs4 SEG4
                  refine hK.out _ _ (by first | assumption | exact ⟨by assumption, by assumption⟩) (fun hHeld => ?_)
                  clear hK K
                  (try dsimp only)
                  (try simp only [List.getElem_toArray, List.getElem_cons_succ, List.getElem_cons_zero, Act.put, List.setIfInBounds_toArray, List.set_cons_zero, List.set_cons_succ])
                  refine wpAnyH_take (i := 14) (v := ?_) rfl (by kernel_rfl) (by kernel_rfl) (by kernel_rfl) (fun _ _ _ h => h) (Or.inl ⟨by rfl, ?_⟩) (by assumption) ?_
                  rotate_left 1
                  · (intro wq hSw; (try dsimp only at hSw); go_simp; try with_reducible rfl)
                  (try dsimp only)
                  (try simp only [List.getElem_toArray, List.getElem_cons_succ, List.getElem_cons_zero, Act.put, List.setIfInBounds_toArray, List.set_cons_zero, List.set_cons_succ])
                  refine wpAnyH_ready (rs := [4, 15]) (by kernel_rfl) (by simp) ?_
                  refine AllReadyH.cons rfl (fun K hK => ?_) (AllReadyH.cons rfl (fun K hK => ?_) AllReadyH.nil)
                  · go_simp
                    refine hK.out _ _ (by first | assumption | exact ⟨by assumption, by assumption⟩) (fun hHeld => ?_)
                    clear hK K
                    (try dsimp only)
                    (try simp only [List.getElem_toArray, List.getElem_cons_succ, List.getElem_cons_zero, Act.put, List.setIfInBounds_toArray, List.set_cons_zero, List.set_cons_succ])
                    refine wpAnyH_ready (rs := [15]) (by kernel_rfl) (by simp) ?_
                    refine AllReadyH.cons rfl (fun K hK => ?_) AllReadyH.nil
                    go_simp
                    refine hK.out _ _ (by first | assumption | exact ⟨by assumption, by assumption⟩) (fun hHeld => ?_)
                    clear hK K
                    (try dsimp only)
                    (try simp only [List.getElem_toArray, List.getElem_cons_succ, List.getElem_cons_zero, Act.put, List.setIfInBounds_toArray, List.set_cons_zero, List.set_cons_succ])
                    refine wpAnyH_ready (rs := [16]) (by kernel_rfl) (by simp) ?_
                    refine AllReadyH.cons rfl (fun K hK => ?_) AllReadyH.nil
                    refine step_append_row 79 108 Tryz.underlying79 infoSeg rfl (by decide) (by decide) rfl _ _ 79 rfl C.L.length 1 (C.L.flatMap RSeg.cells) [.int .i64 x.n, .slice (some ⟨g4, 0, none⟩) N c4, .int .i64 (N : Int)] _ _ rfl rfl HROW5.out HSRC5.out (by have := HCL.out; omega) ?_
                    intro v5 w5 hrow5 hg5 hor5
                    rw [← ECV.out] at hg5 hor5
                    obtain ⟨hfin, ⟨A5, c5, rfl⟩, hk5⟩ := cr_app2 HC0.out (Nat.le_refl _) HX.out HLN.out HN0.out HXS.out HTK.out HG4.out HROW4.out HB4.out hrow5 hg5 hor5
                    have HFIN := Lib.hid hfin
                    have s4a := (World.cell?_of_block (a := ⟨wr.heap.size, 0, none⟩) (hk5 wr.heap.size HBX.out HCN.out)).trans b0
                    have s4b := (World.cell?_of_block (a := ⟨wr.heap.size, 1, none⟩) (hk5 wr.heap.size HBX.out HCN.out)).trans b1
                    have hh5 := (hk5 w.heap.size HCX.out (fun e => HC0.out.ref.own e)).trans HC0.out.ref.head
                    have cL5 := cell_of hh5 1
                    have f5 := free0 hh5 1
                    simp at cL5
                    have s5a : ((w5.setCell ⟨w.heap.size, 1, none⟩ (.slice A5 (C.L.length + 1) c5)).cell? ⟨wr.heap.size, 0, none⟩) = some (.int .i64 x.n) := (World.cell?_of_block (a := ⟨wr.heap.size, 0, none⟩) (Below.heap_setCell _ _ _ _ HWC.out.symm)).trans s4a
                    have s5b : ((w5.setCell ⟨w.heap.size, 1, none⟩ (.slice A5 (C.L.length + 1) c5)).cell? ⟨wr.heap.size, 1, none⟩) = some (.slice (some ⟨gx, 0, none⟩) x.b.length cx) := (World.cell?_of_block (a := ⟨wr.heap.size, 1, none⟩) (Below.heap_setCell _ _ _ _ HWC.out.symm)).trans s4b
                    clear hrow5 hg5 hor5 hfin hk5 hh5
                    refine hK.out _ _ (by first | assumption | exact ⟨by assumption, by assumption⟩) (fun hHeld => ?_)
                    clear hK K
                    (try dsimp only)
                    (try simp only [List.getElem_toArray, List.getElem_cons_succ, List.getElem_cons_zero, Act.put, List.setIfInBounds_toArray, List.set_cons_zero, List.set_cons_succ])
                    refine wpAnyH_take (i := 17) (v := ?_) rfl (by kernel_rfl) (by kernel_rfl) (by kernel_rfl) (fun _ _ _ h => h) (Or.inl ⟨by rfl, ?_⟩) (by assumption) ?_
                    rotate_left 1
                    · (intro wq hSw; (try dsimp only at hSw); go_simp; try with_reducible rfl)
                    (try dsimp only)
                    (try simp only [List.getElem_toArray, List.getElem_cons_succ, List.getElem_cons_zero, Act.put, List.setIfInBounds_toArray, List.set_cons_zero, List.set_cons_succ])
                    refine wpAnyH_take (i := 18) (v := ?_) rfl (by kernel_rfl) (by kernel_rfl) (by kernel_rfl) (fun _ _ _ h => h) (Or.inl ⟨by rfl, ?_⟩) (by assumption) ?_
                    rotate_left 1
                    · (intro wq hSw; (try dsimp only at hSw); go_simp; try with_reducible rfl)
                    (try dsimp only)
                    (try simp only [List.getElem_toArray, List.getElem_cons_succ, List.getElem_cons_zero, Act.put, List.setIfInBounds_toArray, List.set_cons_zero, List.set_cons_succ])
                    refine wpAnyH_ready (rs := [19]) (by kernel_rfl) (by simp) ?_
                    refine AllReadyH.cons rfl (fun K hK => ?_) AllReadyH.nil
                    go_simp
                    refine hK.out _ _ (by first | assumption | exact ⟨by assumption, by assumption⟩) (fun hHeld => ?_)
                    clear hK K
                    (try dsimp only)
                    (try simp only [List.getElem_toArray, List.getElem_cons_succ, List.getElem_cons_zero, Act.put, List.setIfInBounds_toArray, List.set_cons_zero, List.set_cons_succ])
                    refine wpAnyH_done (by kernel_rfl) ?_ _
                    go_wp2_with fail
                    go_roundw
                    case rel =>
                      obtain ⟨C2, hC2⟩ := HFIN.out
                      exact ⟨k + 1, C2, by omega, by go_num, hC2⟩
                    case measure => simp [intOf]; omega
                  · go_simp
                    refine hK.out _ _ (by first | assumption | exact ⟨by assumption, by assumption⟩) (fun hHeld => ?_)
                    clear hK K
                    (try dsimp only)
                    (try simp only [List.getElem_toArray, List.getElem_cons_succ, List.getElem_cons_zero, Act.put, List.setIfInBounds_toArray, List.set_cons_zero, List.set_cons_succ])
                    refine wpAnyH_ready (rs := [4]) (by kernel_rfl) (by simp) ?_
                    refine AllReadyH.cons rfl (fun K hK => ?_) AllReadyH.nil
                    go_simp
                    refine hK.out _ _ (by first | assumption | exact ⟨by assumption, by assumption⟩) (fun hHeld => ?_)
                    clear hK K
                    (try dsimp only)
                    (try simp only [List.getElem_toArray, List.getElem_cons_succ, List.getElem_cons_zero, Act.put, List.setIfInBounds_toArray, List.set_cons_zero, List.set_cons_succ])
                    refine wpAnyH_ready (rs := [16]) (by kernel_rfl) (by simp) ?_
                    refine AllReadyH.cons rfl (fun K hK => ?_) AllReadyH.nil
                    refine step_append_row 79 108 Tryz.underlying79 infoSeg rfl (by decide) (by decide) rfl _ _ 79 rfl C.L.length 1 (C.L.flatMap RSeg.cells) [.int .i64 x.n, .slice (some ⟨g4, 0, none⟩) N c4, .int .i64 (N : Int)] _ _ rfl rfl HROW5.out HSRC5.out (by have := HCL.out; omega) ?_
                    intro v5 w5 hrow5 hg5 hor5
                    rw [← ECV.out] at hg5 hor5
                    obtain ⟨hfin, ⟨A5, c5, rfl⟩, hk5⟩ := cr_app2 HC0.out (Nat.le_refl _) HX.out HLN.out HN0.out HXS.out HTK.out HG4.out HROW4.out HB4.out hrow5 hg5 hor5
                    have HFIN := Lib.hid hfin
                    have s4a := (World.cell?_of_block (a := ⟨wr.heap.size, 0, none⟩) (hk5 wr.heap.size HBX.out HCN.out)).trans b0
                    have s4b := (World.cell?_of_block (a := ⟨wr.heap.size, 1, none⟩) (hk5 wr.heap.size HBX.out HCN.out)).trans b1
                    have hh5 := (hk5 w.heap.size HCX.out (fun e => HC0.out.ref.own e)).trans HC0.out.ref.head
                    have cL5 := cell_of hh5 1
                    have f5 := free0 hh5 1
                    simp at cL5
                    have s5a : ((w5.setCell ⟨w.heap.size, 1, none⟩ (.slice A5 (C.L.length + 1) c5)).cell? ⟨wr.heap.size, 0, none⟩) = some (.int .i64 x.n) := (World.cell?_of_block (a := ⟨wr.heap.size, 0, none⟩) (Below.heap_setCell _ _ _ _ HWC.out.symm)).trans s4a
                    have s5b : ((w5.setCell ⟨w.heap.size, 1, none⟩ (.slice A5 (C.L.length + 1) c5)).cell? ⟨wr.heap.size, 1, none⟩) = some (.slice (some ⟨gx, 0, none⟩) x.b.length cx) := (World.cell?_of_block (a := ⟨wr.heap.size, 1, none⟩) (Below.heap_setCell _ _ _ _ HWC.out.symm)).trans s4b
                    clear hrow5 hg5 hor5 hfin hk5 hh5
                    refine hK.out _ _ (by first | assumption | exact ⟨by assumption, by assumption⟩) (fun hHeld => ?_)
                    clear hK K
                    (try dsimp only)
                    (try simp only [List.getElem_toArray, List.getElem_cons_succ, List.getElem_cons_zero, Act.put, List.setIfInBounds_toArray, List.set_cons_zero, List.set_cons_succ])
                    refine wpAnyH_take (i := 17) (v := ?_) rfl (by kernel_rfl) (by kernel_rfl) (by kernel_rfl) (fun _ _ _ h => h) (Or.inl ⟨by rfl, ?_⟩) (by assumption) ?_
                    rotate_left 1
                    · (intro wq hSw; (try dsimp only at hSw); go_simp; try with_reducible rfl)
                    (try dsimp only)
                    (try simp only [List.getElem_toArray, List.getElem_cons_succ, List.getElem_cons_zero, Act.put, List.setIfInBounds_toArray, List.set_cons_zero, List.set_cons_succ])
                    refine wpAnyH_take (i := 18) (v := ?_) rfl (by kernel_rfl) (by kernel_rfl) (by kernel_rfl) (fun _ _ _ h => h) (Or.inl ⟨by rfl, ?_⟩) (by assumption) ?_
                    rotate_left 1
                    · (intro wq hSw; (try dsimp only at hSw); go_simp; try with_reducible rfl)
                    (try dsimp only)
                    (try simp only [List.getElem_toArray, List.getElem_cons_succ, List.getElem_cons_zero, Act.put, List.setIfInBounds_toArray, List.set_cons_zero, List.set_cons_succ])
                    refine wpAnyH_ready (rs := [19]) (by kernel_rfl) (by simp) ?_
                    refine AllReadyH.cons rfl (fun K hK => ?_) AllReadyH.nil
                    go_simp
                    refine hK.out _ _ (by first | assumption | exact ⟨by assumption, by assumption⟩) (fun hHeld => ?_)
                    clear hK K
                    (try dsimp only)
                    (try simp only [List.getElem_toArray, List.getElem_cons_succ, List.getElem_cons_zero, Act.put, List.setIfInBounds_toArray, List.set_cons_zero, List.set_cons_succ])
                    refine wpAnyH_done (by kernel_rfl) ?_ _
                    go_wp2_with fail
                    go_roundw
                    case rel =>
                      obtain ⟨C2, hC2⟩ := HFIN.out
                      exact ⟨k + 1, C2, by omega, by go_num, hC2⟩
                    case measure => simp [intOf]; omega
    · obtain rfl : k = R.L.length := by omega
      go_wp2
      go_ret
      exact HV.out.fin H.out
end Go.Proofs.YtkdcknkgfgkoaaaGreatDoor
