/- TapeKeeps: the law's same, the walk. -/
import Derived.Test.YtkdcknkgfgkoaaaGreatDoorZLawC
set_option linter.unusedSimpArgs false
set_option linter.unusedVariables false
set_option linter.unnecessarySimpa false
namespace Go.Proofs.YtkdcknkgfgkoaaaGreatDoor
open Go.RowKit

theorem row_at {W : World} {A : Option Addr} {n c : Nat} {l : List Value} (h : RowIs W 1 (.slice A n c) n l) {i : Nat} (hi : i < n) : ∃ g u, A = some ⟨g, 0, none⟩ ∧ g < W.heap.size ∧ W.frozen? ⟨g, i, none⟩ = false ∧ l[i]? = some u ∧ W.cell? ⟨g, i, none⟩ = some u := by
  rcases h with ⟨e, rfl, _⟩ | ⟨g, cap, e, h1, h2, h3⟩
  · omega
  · injection e with e _ e2
    subst e
    subst e2
    have hl : i < l.length := by rw [h1]; omega
    exact ⟨g, _, rfl, h3.lt, (h3.there i (by omega)).2, List.getElem?_eq_getElem hl, h3.holds i _ (List.getElem?_eq_getElem hl)⟩

theorem row_off {W : World} {v : Value} {n : Nat} {l : List Value} (h : RowIs W 1 v n l) {g i : Nat} (hg : ∀ g', v.ownBlock = some g' → g' ≠ g) (u : Value) : RowIs (W.setCell ⟨g, i, none⟩ u) 1 v n l :=
  h.touch (S := fun k => k = g) ((Touch.refl (fun k => k = g) _).setCell ⟨g, i, none⟩ (fun _ => rfl) u) hg

theorem below_put {a b : World} {B : Nat} (h : Below B a b) {g : Nat} (hg : B ≤ g) (hB : B ≤ b.heap.size) (i : Nat) (u : Value) : Below B a (b.setCell ⟨g, i, none⟩ u) :=
  h.trans (((Touch.refl (fun k => k = g) b).setCell ⟨g, i, none⟩ (fun _ => rfl) u).below (fun k e => by rw [e]; exact hg) hB)

theorem sm_lenQ {w0 w : World} {t r : Nat} {T : Tp} {R : RTp} (h : TR w0 w t r T R) {i : Nat} {x : RSeg} (hx : R.L[i]? = some x) : ∀ V, Below w.heap.size w V → Calls Tryz.prog 14 #[.pointer (some ⟨t, 0, none⟩), .int .i64 x.n] V fun e w' => e = .returned (.int .i64 (x.b.length : Nat)) ∧ w' = V := fun V hV => (sm_len h hx V hV).mono fun _ _ k => ⟨k.1, k.2.symm⟩

theorem sm_syncedQ {w0 w : World} {t r : Nat} {T : Tp} {R : RTp} (h : TR w0 w t r T R) {i : Nat} {x : RSeg} (hx : R.L[i]? = some x) : ∀ V, Below w.heap.size w V → Calls Tryz.prog 16 #[.pointer (some ⟨t, 0, none⟩), .int .i64 x.n] V fun e w' => e = .returned (.int .i64 (x.s : Nat)) ∧ w' = V := fun V hV => (sm_synced h hx V hV).mono fun _ _ k => ⟨k.1, k.2.symm⟩

set_option maxRecDepth 100000 in
set_option maxHeartbeats 4000000 in
theorem same_any {w0 w : World} {t r : Nat} {T : Tp} {R : RTp} (h : TR w0 w t r T R) : Calls Tryz.prog 48 #[.pointer (some ⟨t, 0, none⟩), .pointer (some ⟨r, 0, none⟩)] w fun e w' => e = .returned (.bool true) ∧ Below w.heap.size w w' := by
  have HU := Lib.hid (sm_used h)
  have HRU := Lib.hid (sm_rused h)
  have HF := Lib.hid (sm_free h)
  have HRF := Lib.hid (sm_rfree h)
  have HD := Lib.hid (sm_down h)
  have HSG := Lib.hid (sm_segs h)
  obtain ⟨A, cap, ev, hc2, hc1, hC⟩ := sm_cells h
  have HC := Lib.hid hC
  have HH := Lib.hid h
  have EV := Lib.hid ev
  have hfew := h.ref.few
  obtain ⟨ca, cb⟩ := hC w (Below.refl _ _)
  have HLM : Hid (∀ V, Below w.heap.size w V → Calls Tryz.prog 14 #[.pointer (some ⟨t, 0, none⟩), .int .i64 (-1)] V fun e w' => e = .returned (.int .i64 0) ∧ Below w.heap.size w w') := fun V hV => (len_no t (seg := -1) (by decide)).mono fun e w' k => ⟨k.1, hV.trans (k.2.mono hV.size)⟩
  have HSM : Hid (∀ V, Below w.heap.size w V → Calls Tryz.prog 16 #[.pointer (some ⟨t, 0, none⟩), .int .i64 (-1)] V fun e w' => e = .returned (.int .i64 0) ∧ Below w.heap.size w w') := fun V hV => (synced_no t (seg := -1) (by decide)).mono fun e w' k => ⟨k.1, hV.trans (k.2.mono hV.size)⟩
  have HSEG := Lib.hid (fun (i : Nat) (x : RSeg) (hx : R.L[i]? = some x) (W : World) (hW : Below w.heap.size w W) => (by
    obtain ⟨g, e, hg, k0, k1, k2⟩ := h.ref.ref.seg3 ev hx
    exact ⟨g, e, (hW.cell (p := ⟨g, i * 3, none⟩) hg).trans k0, (hW.cell (p := ⟨g, i * 3 + 1, none⟩) hg).trans k1, (hW.cell (p := ⟨g, i * 3 + 2, none⟩) hg).trans k2⟩ : ∃ g, A = some ⟨g, 0, none⟩ ∧ W.cell? ⟨g, i * 3, none⟩ = some (.int .i64 x.n) ∧ W.cell? ⟨g, i * 3 + 1, none⟩ = some x.v ∧ W.cell? ⟨g, i * 3 + 2, none⟩ = some (.int .i64 (x.s : Int))))
  generalize used T.L = u at *
  generalize T.room - u = f at *
  generalize T.down = dn at *
  have hdn : (dn != dn) = false := by cases dn <;> rfl
  clear h hC ev
  go_enter Tryz.func48, Tryz.ntmps48
  go_wp2_with fail
  go_region_held (fun W => W.cell? ⟨r, 3, none⟩ = some (.bool dn)) ((first | go_keep | assumption)) (first | (go_at_call 38; refine (HU.out _ (by first | assumption | exact below_drew (Below.refl _ _))).mono ?_; rintro x w1 ⟨rfl, hb1⟩; have hk1 := (HC.out _ hb1).2) | (go_at_call 69; refine (HRU.out _ (by first | assumption | exact below_drew (Below.refl _ _))).mono ?_; rintro x w2 ⟨rfl, hb2⟩; have hk2 := (HC.out _ hb2).2) | (go_at_call 79; refine (HF.out _ (by first | assumption | exact below_drew (Below.refl _ _))).mono ?_; rintro x w3 ⟨rfl, hb3⟩; have hk3 := (HC.out _ hb3).2) | (go_at_call 63; refine (HRF.out _ (by first | assumption | exact below_drew (Below.refl _ _))).mono ?_; rintro x w4 ⟨rfl, hb4⟩; have hk4 := (HC.out _ hb4).2) | (go_at_call 17; refine (HD.out _ (by first | assumption | exact below_drew (Below.refl _ _))).mono ?_; rintro x w5 ⟨rfl, hb5⟩; have hk5 := (HC.out _ hb5).2))
  have HB5 := Lib.hid hb5
  clear hb1 hb2 hb3 hb4 hb5 hk1 hk2 hk3 hk4 hk5 ca cb
  go_wp2_with fail
  refine (HSG.out _ HB5.out).mono ?_
  rintro x w6 ⟨v, rfl, hrow, hown, hb6⟩
  have HB6 := Lib.hid hb6
  obtain ⟨Al, cl, rfl, hl1, hl2, _, hl4, _⟩ := hrow.form
  have HOWN : Hid (∀ g, Al = some ⟨g, 0, none⟩ → w.heap.size ≤ g) := fun g e => hown g (by rw [e]; rfl)
  obtain ⟨c6, _⟩ := HC.out _ hb6
  have HROW := Lib.hid hrow
  unfold maxLen at hl2
  clear hrow hown hb6 hl4
  go_wp2_with fail
  go_loopw [51] (fun i wr => ∃ (k : Nat) (ls : List Int), k ≤ R.L.length ∧ i = .int .i64 k ∧ RowIs wr 1 (.slice Al R.L.length cl) R.L.length (ls.map (Value.int .i64)) ∧ (∀ j, k ≤ j → ls[j]? = (R.L.map (·.n))[j]?) ∧ Below w.heap.size w wr) (fun i _ => R.L.length - (intOf i).toNat)
  case atStart => exact ⟨0, _, by omega, rfl, HROW.out, fun _ _ => rfl, HB6.out⟩
  case round =>
    obtain ⟨k, ls, hk, rfl, hrow, hls, hb⟩ := hrel
    have HB := Lib.hid hb
    have HLS := Lib.hid hls
    have HRW := Lib.hid hrow
    clear c6 hls hrow hb
    obtain ⟨wo, rfl⟩ : ∃ wo : World, wo = wr := ⟨_, rfl⟩
    by_cases hlt : k < R.L.length
    · have hxk : R.L[k]? = some R.L[k] := List.getElem?_eq_getElem hlt
      obtain ⟨g, rfl, k0, k1, k2⟩ := HSEG.out k _ hxk wo HB.out
      obtain ⟨gx, nx, cx, ex, _⟩ := HH.out.ref.base _ (List.getElem_mem hlt)
      have HBX := Lib.hid ((HH.out.ref.ref.segs _ (List.getElem_mem hlt)).1.below HB.out)
      have HX := Lib.hid hxk
      have hlk : ls[k]? = some R.L[k].n := by rw [HLS.out k (Nat.le_refl _), List.getElem?_map, hxk]; rfl
      generalize R.L[k] = x at *
      obtain ⟨A3, c3, e3, hx1, hx2, _⟩ := HBX.out
      rw [ex] at e3
      injection e3 with e3 e4 e5
      subst e4
      subst e5
      subst e3
      rw [ex] at k1
      have EX := Lib.hid ex
      have ha : (⟨g, 0, none⟩ : Addr).add (k * 3) = ⟨g, k * 3, none⟩ := add0 _ _
      obtain ⟨gl, rfl, hcl⟩ : ∃ gl, Al = some ⟨gl, 0, none⟩ ∧ wo.cell? ⟨gl, k, none⟩ = some (.int .i64 x.n) := by
        obtain ⟨A2, c2, e2, _, _, _, _, h6⟩ := HRW.out.form
        injection e2 with e2 _ _
        subst e2
        exact h6 k _ (by rw [List.getElem?_map, hlk]; rfl)
      have HBA := Lib.hid (below_new (w := wo) (.cells #[.int .i64 x.n, .slice (some ⟨gx, 0, none⟩) x.b.length cx, .int .i64 (x.s : Int)] 108))
      have HBW := Lib.hid (HB.out.trans (HBA.out.mono HB.out.size))
      have HRD := Lib.hid (sm_read HH.out HX.out _ HBW.out)
      have hgl : gl < wo.heap.size := HRW.out.lt gl rfl
      have hclA := cell_old hcl hgl (.cells #[.int .i64 x.n, .slice (some ⟨gx, 0, none⟩) x.b.length cx, .int .i64 (x.s : Int)] 108)
      have HBOX := Lib.hid (alloc_at wo (.cells #[.int .i64 x.n, .slice (some ⟨gx, 0, none⟩) x.b.length cx, .int .i64 (x.s : Int)] 108))
      replace hlt : (k : Int) < (R.L.length : Int) := by omega
      clear hxk ex
      go_wp2_with fail
      refine (HRD.out).mono ?_
      rintro y w7 ⟨v8, rfl, ho8, hb8⟩
      have HO8 := Lib.hid ho8
      have HB8 := Lib.hid hb8
      have HW7 := Lib.hid (HBW.out.trans (hb8.mono HBW.out.size))
      have HQ : Hid (wo.heap.size < (wo.alloc (.cells #[.int .i64 x.n, .slice (some ⟨gx, 0, none⟩) x.b.length cx, .int .i64 (x.s : Int)] 108)).heap.size) := by show _ < _; rw [asz]; omega
      have hcl7 := (hb8.cell (p := ⟨gl, k, none⟩) (Nat.lt_trans hgl HQ.out)).trans hclA
      have hbx7 := (hb8.block wo.heap.size HQ.out).trans HBOX.out
      have z0 := cell_of hbx7 0
      have z1 := cell_of hbx7 1
      have z2 := cell_of hbx7 2
      simp at z0 z1 z2
      have HLN := Lib.hid (fun m => sm_lenQ HH.out HX.out (w7.drewN m) (below_drewN HW7.out m))
      have HSN := Lib.hid (fun m => sm_syncedQ HH.out HX.out (w7.drewN m) (below_drewN HW7.out m))
      have hb8is : BIs w7 v8 x.b := (own_row ho8).1 |> row_bis
      have HS1 : Hid (BIs w7 (.slice (some ⟨gx, 0, none⟩) x.b.length cx) x.b) := by
        have := ((HH.out.ref.ref.segs x (List.mem_of_getElem? HX.out)).1).below HW7.out
        rw [EX.out] at this
        exact this
      have HB8I := Lib.hid hb8is
      obtain ⟨A8, c8, e8, h81, h82, h83⟩ := hb8is
      unfold maxLen at h82
      subst e8
      have cv1 : ∀ m, (convert 32 9 (.slice A8 x.b.length c8)).run Tryz.prog (w7.drewN m) = .ok (.string ⟨x.b.toArray⟩) (w7.drewN m) := fun m => bis_string (HB8I.out.below (below_drewN (Below.refl _ _) m))
      have cv2 : ∀ m, (convert 32 9 (.slice (some ⟨gx, 0, none⟩) x.b.length cx)).run Tryz.prog (w7.drewN m) = .ok (.string ⟨x.b.toArray⟩) (w7.drewN m) := fun m => bis_string (HS1.out.below (below_drewN (Below.refl _ _) m))
      have HBB : Hid (Below wo.heap.size wo w7) := Lib.hid (HBA.out.trans (hb8.mono HBA.out.size))
      have hkn : k < R.L.length := by omega
      have hfz : w7.frozen? ⟨gl, k, none⟩ = false := by
        obtain ⟨gq, uq, eq, _, hq, _⟩ := row_at (HRW.out.below HBB.out) hkn
        cases eq
        exact hq
      have HO1 : Hid (RowIs w7 1 (.slice A8 x.b.length c8) x.b.length (bc x.b)) := (own_row HO8.out).1
      have HO2 : Hid (∀ g', (Value.slice A8 x.b.length c8).ownBlock = some g' → wo.heap.size < g') := fun g' e => Nat.lt_of_lt_of_le HQ.out ((own_row HO8.out).2 g' e)
      have HKN := Lib.hid hkn
      clear ho8 hb8 hbx7 hclA hcl k0 k1 k2 h83 hlk hkn
      go_wp2_with fail
      go_quiet ((first | (go_at_call 14; exact Calls.quiet_of_same (HLN.out _)) | (go_at_call 16; exact Calls.quiet_of_same (HSN.out _))))
      go_wp2_with fail
      go_loopw [106] (fun i wx => ∃ (j : Nat) (vs : List Value), j ≤ x.b.length ∧ i = .int .i64 j ∧ Below w.heap.size w wx ∧ RowIs wx 1 (.slice (some ⟨gl, 0, none⟩) R.L.length cl) R.L.length ((ls.set k (-1)).map (Value.int .i64)) ∧ RowIs wx 1 (.slice A8 x.b.length c8) x.b.length vs ∧ ∀ (q : Nat) (v : Value), vs[q]? = some v → ∃ z : Int, v = .int .u8 z) (fun i _ => x.b.length - (intOf i).toNat)
      case atStart =>
        have hb0 : Below wo.heap.size wo (w7.drewN nq) := below_drewN HBB.out nq
        refine ⟨0, bc x.b, by omega, rfl, below_put (below_drewN HW7.out nq) (HOWN.out gl rfl) (below_drewN HW7.out nq).size _ _, ?_, row_off (HO1.out.below (below_drewN (Below.refl _ _) nq)) (fun g' e => ?_) _, fun q v hv => ?_⟩
        · have := row_set (HRW.out.below hb0) HKN.out (.int .i64 (-1))
          rw [← List.map_set] at this
          exact this
        · have := HO2.out g' e
          omega
        · obtain ⟨b, _, rfl⟩ := bc_at hv
          exact ⟨_, rfl⟩
      case round =>
        obtain ⟨j, vs, hj, rfl, hbW, hrL, hr8, hvs⟩ := hrel
        have HBQ := Lib.hid hbW
        have HRL := Lib.hid hrL
        have HR8 := Lib.hid hr8
        have HVS := Lib.hid hvs
        clear hbW hrL hr8 hvs
        by_cases hlt2 : j < x.b.length
        · obtain ⟨g8, u8, rfl, hg8, hf8, hv8, hc8⟩ := row_at HR8.out hlt2
          obtain ⟨z, rfl⟩ := HVS.out j u8 hv8
          have HG8 : Hid (wo.heap.size < g8) := HO2.out g8 rfl
          have HJ := Lib.hid hlt2
          replace hlt2 : (j : Int) < (x.b.length : Int) := by omega
          clear hv8
          go_wp2_with fail
          go_roundw
          case rel =>
            have hw := HBQ.out.size
            have hwo := HB.out.size
            refine ⟨j + 1, _, by have := HJ.out; omega, by go_num, below_put HBQ.out (by have := HG8.out; omega) hw _ _, row_off HRL.out (fun g' e => ?_) _, row_set HR8.out HJ.out _, fun q v hv => ?_⟩
            · cases e
              have := HG8.out
              have : gl < wo.heap.size := hgl
              show gl ≠ _
              omega
            · rw [List.getElem?_set] at hv
              split at hv
              · split at hv
                · obtain rfl := Option.some.inj hv
                  exact ⟨_, rfl⟩
                · cases hv
              · exact HVS.out q v hv
          case measure => simp [intOf]; omega
        · obtain rfl : j = x.b.length := by omega
          go_wp2_with fail
          go_roundw
          case rel =>
            refine ⟨k + 1, ls.set k (-1), HKN.out, by go_num, HRL.out, fun q hq => ?_, HBQ.out⟩
            rw [List.getElem?_set_ne (by omega)]
            exact HLS.out q (by omega)
          case measure => simp [intOf]; omega
    · obtain rfl : k = R.L.length := by omega
      go_wp2_with fail
      refine (HLM.out _ HB.out).mono ?_
      rintro y w8 ⟨rfl, hb8⟩
      go_wp2_with fail
      refine (HSM.out _ hb8).mono ?_
      rintro y w9 ⟨rfl, hb9⟩
      go_wp2_with fail
      go_ret
      exact ⟨rfl, hb9⟩
end Go.Proofs.YtkdcknkgfgkoaaaGreatDoor
