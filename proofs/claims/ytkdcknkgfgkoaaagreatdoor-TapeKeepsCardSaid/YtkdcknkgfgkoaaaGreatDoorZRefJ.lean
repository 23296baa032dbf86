/- The reference's tape: Do, Append. -/
import Derived.Test.YtkdcknkgfgkoaaaGreatDoorZRefE
set_option linter.unusedSimpArgs false
set_option linter.unusedVariables false
set_option linter.unnecessarySimpa false
namespace Go.Proofs.YtkdcknkgfgkoaaaGreatDoor
open Go.RowKit

theorem rinfo5 : (Tryz.prog.info? 5).map (fun i => (i.zero, i.size, i.bytes)) = some (some (.int .u8 0), 1, 1) := by kernel_rfl
theorem BIs.far {w w' : World} {r : Nat} {v : Value} {l : List UInt8} (h : BIs w v l) (ht : Touch (· = r) w w') (hf : l ≠ [] → ∀ A n c, v = .slice (some A) n c → A.block ≠ r) : BIs w' v l := by
  obtain ⟨A, cap, e, h1, h2, h3⟩ := h
  refine ⟨A, cap, e, h1, h2, fun i b hi => ?_⟩
  obtain ⟨a, q1, q2, q3⟩ := h3 i b hi
  subst q1
  exact ⟨a, rfl, Nat.lt_of_lt_of_le q2 ht.size, (World.cell?_of_block (a := a.add i) (by rw [add_block]; exact ht.block _ q2 (hf (fun e0 => by rw [e0] at hi; simp at hi) a _ _ e))).trans q3⟩
theorem row_empty (W : World) (t : TypeId) : RowIs (W.alloc (.cells #[] t)) 1 (.slice (some ⟨W.heap.size, 0, none⟩) 0 0) 0 [] :=
  .inr ⟨W.heap.size, 0, rfl, rfl, Nat.le_refl _, by rw [asz]; omega, by simp, by unfold maxLen; omega, (fun j b hj => by simp at hj), (fun j hj => by omega)⟩
theorem row_bis {w : World} {v : Value} {l : List UInt8} (h : RowIs w 1 v l.length (bc l)) : BIs w v l := by
  obtain ⟨A, cap, rfl, h1, h2, h3, h4, h5⟩ := h.form
  refine ⟨A, cap, rfl, h1, h2, fun i b hi => ?_⟩
  obtain ⟨g, rfl, hc⟩ := h5 i (.int .u8 (b.toNat : Int)) (by unfold bc; rw [List.getElem?_map, hi]; rfl)
  obtain ⟨g', e, hg'⟩ := h4 _ rfl
  cases e
  exact ⟨_, rfl, h.lt _ hg', by rw [add0]; exact hc⟩
/-- A row that is not nil. -/
theorem row_some {w : World} {v : Value} {n : Nat} {l : List Value} (h : RowIs w 1 v n l) {k : Nat} (hk : v.ownBlock = some k) : ∃ c, v = .slice (some ⟨k, 0, none⟩) n c := by
  rcases h with ⟨rfl, _, _⟩ | ⟨g, cap, rfl, _⟩
  · cases hk
  · cases hk; exact ⟨cap, rfl⟩
theorem app_fin {w w3 w5 : World} {r : Nat} {R : RTp} (h : RefOk w r R) (hf : R.fuse ≠ 0) (h3 : RefAt w3 r (rburnt R)) (ht : Touch (· = r) w w3) (hb5 : Below w3.heap.size w3 w5) {n : Int} {s g2 c2 : Nat} {d : List UInt8} (hrow : RowIs w5 1 (.slice (some ⟨g2, 0, none⟩) d.length c2) d.length (bc d)) (hg2 : w3.heap.size < g2) (hs : s ≤ d.length) (hlen : (dropS (absR R.L) n).length < 64) (hu : d.length + sizeS (dropS (absR R.L) n) ≤ 1048576) :
    Calls Tryz.prog 65 #[.pointer (some ⟨r, 0, none⟩), .agg #[.int .i64 n, .slice (some ⟨g2, 0, none⟩) d.length c2, .int .i64 (s : Int)]] (w5.setCell ⟨w3.heap.size, 1, none⟩ (.slice (some ⟨g2, 0, none⟩) d.length c2)) fun e w' => e = .returned (.tuple #[]) ∧ DoP w r R { burnP (plR R) with A := putS (absR R.L) (n, d, s) } w' := by
  have hr := heap_lt h3.head
  have hle := ht.size
  have hB : Below w3.heap.size w3 (w5.setCell ⟨w3.heap.size, 1, none⟩ (.slice (some ⟨g2, 0, none⟩) d.length c2)) := hb5.setCell (p := ⟨w3.heap.size, 1, none⟩) (Nat.le_refl _) _
  have hrow2 : RowIs (w5.setCell ⟨w3.heap.size, 1, none⟩ (.slice (some ⟨g2, 0, none⟩) d.length c2)) 1 (.slice (some ⟨g2, 0, none⟩) d.length c2) d.length (bc d) :=
    hrow.touch (S := (· = w3.heap.size)) ((Touch.refl (· = w3.heap.size) w5).setCell ⟨w3.heap.size, 1, none⟩ (fun _ => rfl) _) (fun k hk e => by cases hk; exact absurd (show g2 = w3.heap.size from e) (by omega))
  have hxf : ∀ A n' c, (Value.slice (some ⟨g2, 0, none⟩) d.length c2) = .slice (some A) n' c → A.block ≠ r := fun A n' c e => by
    injection e with e _ _
    injection e with e
    subst e
    exact Nat.ne_of_gt (Nat.lt_trans hr hg2)
  refine (rput_ok h h3 ⟨n, .slice (some ⟨g2, 0, none⟩) d.length c2, d, s⟩ hs hxf hB (row_bis hrow2)).mono ?_
  rintro e w' ⟨rfl, hp⟩
  exact ⟨rfl, do_put h hf h3 ht hB hp ⟨g2, _, _, rfl, hrow2.lt g2 rfl⟩ hxf hlen hu (fun A n' c e => .inr (by
    injection e with e _ _
    injection e with e
    subst e
    exact (show w.heap.size ≤ g2 by omega)))⟩

set_option maxRecDepth 100000 in
set_option maxHeartbeats 4000000 in
theorem rdo_app_hit {w : World} {r : Nat} {R : RTp} (h : RefOk w r R) {n : Int} {bv : Value} {b : List UInt8} (hb : BIs w bv b) (hbr : b ≠ [] → ∀ A n c, bv = .slice (some A) n c → A.block ≠ r) {j : Nat} {x : RSeg} (hx : R.L[j]? = some x) (hn : nameP x.n = true) (hd : R.down = false) (hroom : b.length ≤ R.room.toNat - rused R.L) : Calls Tryz.prog 23 #[.pointer (some ⟨r, 0, none⟩), .int .i64 0, .int .i64 x.n, .int .i64 n, bv] w fun e w' => e = .returned (.int .i64 (doP (plR R) 0 x.n n b).1) ∧ DoP w r R (doP (plR R) 0 x.n n b).2 w' := by
  have hlk := h.lookP hx
  have hF : Fine (plR R) 0 x.n n b := ⟨hn, hd, (fun c => absurd rfl c), (fun _ => ⟨by show _ ≤ R.room.toNat - sizeS (absR R.L); rw [absR_size]; exact hroom, fun c => by rw [hlk] at c; cases c⟩), (fun c => by cases c)⟩
  obtain ⟨h0, h1⟩ := nameP_yes.1 hn
  have g0 : ¬ x.n < 0 := by omega
  have g1 : ¬ 1048576 < x.n := by omega
  obtain ⟨A, cap, ev, hc2, hc1, HC⟩ := h.cells
  rw [hd] at HC
  have HFI := Lib.hid (rfind_hit h hx rfl)
  have HFR := Lib.hid (fun W hW => rfree_ok h (W := W) hW)
  have c3 := (HC w (Below.refl _ _)).2
  have gj : ¬ (j : Int) < 0 := by omega
  obtain ⟨Ab, cb, rfl, hb1, hb2, hb3⟩ := hb
  have HBB : Hid (BIs w (.slice Ab b.length cb) b) := ⟨Ab, cb, rfl, hb1, hb2, hb3⟩
  have hroom' : ¬ ((R.room.toNat - rused R.L : Nat) : Int) < (b.length : Int) := by omega
  by_cases hf : R.fuse = 0
  · rw [doP_dead hF hf]
    have HS := Lib.hid (rspent_no h hf)
    generalize R.room.toNat - rused R.L = f at *
    clear h hx hn hd hlk hF h0 h1 ev HC hf hc1 hc2 hroom hb3
    go_enter Tryz.func23, Tryz.ntmps23
    go_wp2_with fail
    refine (HFI.out).mono ?_
    rintro e w1 ⟨rfl, hb⟩
    have HB := Lib.hid hb
    clear hb
    go_wp2_with fail
    refine (HFR.out _ HB.out).mono ?_
    rintro e w2 ⟨rfl, hb⟩
    have HB2 := Lib.hid hb
    clear hb
    go_wp2_with fail
    refine (HS.out _ HB2.out).mono ?_
    rintro e w3 ⟨rfl, h3⟩
    have H3 := Lib.hid h3
    clear h3
    go_wp2_with fail
    go_ret
    exact ⟨rfl, H3.out⟩
  · rw [doP_app hF hf (y := (x.b, x.s)) (by rw [hlk]; rfl)]
    have HS := Lib.hid (rspent_ok h hf)
    obtain ⟨Ax, cx, exv, hx1, hx2, hx3⟩ := (h.ref.segs x (List.mem_of_getElem? hx)).1
    have HBC := Lib.hid (fun (w3 : World) (h3 : RefAt w3 r (rburnt R)) => burnt_cells h h3 ev hx)
    have HEX := Lib.hid exv
    have hjl : (j : Int) < (R.L.length : Int) := by have := (List.getElem?_eq_some_iff.1 hx).1; omega
    generalize hff : R.room.toNat - rused R.L = f at *
    have HFF := Lib.hid hff
    clear hn hd hlk hF h0 h1 HC exv hroom hb3 hx3 hff
    have HH := Lib.hid h
    have HHX := Lib.hid hx
    have hf' := Lib.hid hf
    clear h hx hf
    go_enter Tryz.func23, Tryz.ntmps23
    go_wp2_with fail
    refine (HFI.out).mono ?_
    rintro e w1 ⟨rfl, hb⟩
    have HB := Lib.hid hb
    clear hb
    go_wp2_with fail
    refine (HFR.out _ HB.out).mono ?_
    rintro e w2 ⟨rfl, hb⟩
    have HB2 := Lib.hid hb
    clear hb
    go_wp2_with fail
    refine (HS.out _ HB2.out).mono ?_
    rintro e w3 ⟨rfl, h3, ht3⟩
    obtain ⟨k, g, rfl, hg, k0, k1, k2⟩ := HBC.out w3 h3
    rw [HEX.out] at k1
    have hr3 := heap_lt h3.head
    have kA := cell_old k hr3 (.cells #[.int .i64 x.n, .slice none 0 0, .int .i64 0] 108)
    have kB := cell_old k0 hg (.cells #[.int .i64 x.n, .slice none 0 0, .int .i64 0] 108)
    have kC := cell_old k1 hg (.cells #[.int .i64 x.n, .slice none 0 0, .int .i64 0] 108)
    have kD := cell_old k2 hg (.cells #[.int .i64 x.n, .slice none 0 0, .int .i64 0] 108)
    have ha : (⟨g, 0, none⟩ : Addr).add (j * 3) = ⟨g, j * 3, none⟩ := add0 _ _
    have H3 := Lib.hid h3
    have HT3 := Lib.hid ht3
    clear h3 ht3
    have HBX3 : Hid (BIs w3 x.v x.b) := (H3.out.segs x (by rw [(rburnt_L R).1]; exact List.mem_of_getElem? HHX.out)).1
    have HBV3 := Lib.hid (HBB.out.far HT3.out hbr)
    rw [HEX.out] at HBX3
    have HW1 := Lib.hid (below_new (w := w3) (.cells #[.int .i64 x.n, .slice Ax x.b.length cx, .int .i64 (x.s : Int)] 108))
    have HW2 := Lib.hid (below_new (w := w3.alloc (.cells #[.int .i64 x.n, .slice Ax x.b.length cx, .int .i64 (x.s : Int)] 108)) (.cells #[] 5))
    have HROW := Lib.hid (row_empty (w3.alloc (.cells #[.int .i64 x.n, .slice Ax x.b.length cx, .int .i64 (x.s : Int)] 108)) 5)
    have HSRC := Lib.hid (((HBX3.out.below HW1.out).below HW2.out).src)
    have HBV4 := Lib.hid ((HBV3.out.below HW1.out).below HW2.out)
    have HWB := Lib.hid (HW1.out.trans (HW2.out.mono (by rw [asz]; omega)))
    have HBOX := Lib.hid ((HW2.out.block w3.heap.size (by rw [asz]; omega)).trans (alloc_at w3 (.cells #[.int .i64 x.n, .slice Ax x.b.length cx, .int .i64 (x.s : Int)] 108)))
    have HLX : Hid (x.b.length ≤ 1048576 ∧ b.length ≤ 1048576) := ⟨by have := (HH.out.hitLen HHX.out).2; have := HH.out.used; omega, by obtain ⟨m, e, hm⟩ := HH.out.room; have := HFF.out; rw [e, Int.toNat_natCast] at this; omega⟩
    have HASZ2 := Lib.hid (show ((w3.alloc (.cells #[.int .i64 x.n, .slice Ax x.b.length cx, .int .i64 (x.s : Int)] 108)).alloc (.cells #[] 5)).heap.size = w3.heap.size + 1 + 1 from by rw [asz, asz])
    rw [asz] at HROW
    clear k k0 k1 k2
    go_wp2_with (at_builtin; refine wpList_append_row _ _ Tryz.underlying32 rinfo5 rfl (by decide) (by decide) _ rfl _ _ 32 rfl 0 x.b.length [] (bc x.b) _ _ rfl rfl HROW.out HSRC.out ?_ ?_)
    · have := HLX.out.1; omega
    intro v4 w4 hrow4 hg4 hor4
    have hbl4 : ∃ g4, v4.ownBlock = some g4 ∧ w3.heap.size < g4 := by
      rcases hor4 with e | e
      · exact ⟨w3.heap.size + 1, e, by omega⟩
      · exact ⟨_, e, by first | omega | (rw [asz, asz]; omega)⟩
    obtain ⟨g4, eg4, hg4l⟩ := hbl4
    obtain ⟨c4, rfl⟩ := row_some hrow4 eg4
    have HB4 := Lib.hid (HWB.out.grown hg4 HWB.out.size (fun k hk => by cases hk; exact Nat.le_succ _))
    have hbox4 := (hg4.block w3.heap.size (by rw [HASZ2.out]; omega) (fun e => by injection e with e; exact absurd (show w3.heap.size = w3.heap.size + 1 from e) (by omega))).trans HBOX.out
    have HBOX4 := Lib.hid hbox4
    have hs4 : w3.heap.size + 1 + 1 ≤ w4.heap.size := by have := hg4.size; rw [HASZ2.out] at this; exact this
    have HSRC5 := Lib.hid ((HBV3.out.below HB4.out).src)
    have HROW4 := Lib.hid hrow4
    have HG4 : Hid (w3.heap.size < g4) := hg4l
    have HS4 := Lib.hid hs4
    clear hrow4 hg4 hor4 eg4 hg4l hbox4 hs4 kA kB kC kD
    go_wp2_with (at_builtin; refine wpList_append_row _ _ Tryz.underlying32 rinfo5 rfl (by decide) (by decide) _ rfl _ _ 32 rfl x.b.length b.length (bc x.b) (bc b) _ _ rfl rfl HROW4.out HSRC5.out ?_ ?_)
    · have := HLX.out; omega
    intro v5 w5 hrow5 hg5 hor5
    have hbl5 : ∃ g5, v5.ownBlock = some g5 ∧ w3.heap.size < g5 := by
      have h4 := HG4.out
      have h5 := HS4.out
      rcases hor5 with e | e
      · exact ⟨g4, e, h4⟩
      · exact ⟨_, e, by omega⟩
    obtain ⟨g5, eg5, hg5l⟩ := hbl5
    obtain ⟨c5, rfl⟩ := row_some hrow5 eg5
    have HB5 := Lib.hid (HB4.out.grown hg5 HB4.out.size (fun k hk => by cases hk; exact Nat.le_of_lt HG4.out))
    have hbox5 := (hg5.block w3.heap.size (by have := HS4.out; omega) (fun e => by injection e with e; exact absurd (show w3.heap.size = g4 from e) (by have := HG4.out; omega))).trans HBOX4.out
    have q0 := cell_of hbox5 0
    have q1 := cell_of hbox5 1
    have q2 := cell_of hbox5 2
    have qf := free0 hbox5 1
    simp at q0 q1 q2
    rw [← bc_append, ← List.length_append] at hrow5
    have HU := HH.out.used
    have HH2 := (HH.out.hitLen HHX.out).2
    have hu2 : x.b.length + b.length + sizeS (dropS (absR R.L) x.n) ≤ 1048576 := by
      obtain ⟨m, e, hm⟩ := HH.out.room
      have := HFF.out
      rw [e, Int.toNat_natCast] at this
      omega
    have hs := (HH.out.ref.segs x (List.mem_of_getElem? HHX.out)).2
    have HP := Lib.hid (app_fin (n := x.n) (s := x.s) HH.out hf'.out H3.out HT3.out HB5.out hrow5 hg5l (by rw [List.length_append]; omega) (HH.out.hitLen HHX.out).1 (by rw [List.length_append]; omega))
    rw [List.length_append] at HP
    have HQ5 : Hid (w3.heap.size < w5.heap.size) := by have := hg5.size; have := HS4.out; show _ < _; omega
    clear hrow5 hg5 hor5 eg5 hg5l hbox5 HU HH2 hu2 hs
    go_wp2_with fail
    refine (HP.out).mono ?_
    rintro e w6 ⟨rfl, h6⟩
    have H6 := Lib.hid h6
    clear h6
    go_wp2_with fail
    go_ret
    exact ⟨rfl, H6.out⟩
set_option maxRecDepth 100000 in
set_option maxHeartbeats 4000000 in
theorem rdo_app_miss {w : World} {r : Nat} {R : RTp} (h : RefOk w r R) {n : Int} {bv : Value} {b : List UInt8} (hb : BIs w bv b) (hbr : b ≠ [] → ∀ A n c, bv = .slice (some A) n c → A.block ≠ r) {seg : Int} (hx : ∀ x ∈ R.L, x.n ≠ seg) (hn : nameP seg = true) (hd : R.down = false) (h64 : R.L.length < 64) (hroom : b.length ≤ R.room.toNat - rused R.L) : Calls Tryz.prog 23 #[.pointer (some ⟨r, 0, none⟩), .int .i64 0, .int .i64 seg, .int .i64 n, bv] w fun e w' => e = .returned (.int .i64 (doP (plR R) 0 seg n b).1) ∧ DoP w r R (doP (plR R) 0 seg n b).2 w' := by
  have hlk := h.miss hx
  have hF : Fine (plR R) 0 seg n b := ⟨hn, hd, (fun c => absurd rfl c), (fun _ => ⟨by show _ ≤ R.room.toNat - sizeS (absR R.L); rw [absR_size]; exact hroom, fun c => by show (absR R.L).length < 64; unfold absR; rw [List.length_map]; exact h64⟩), (fun c => by cases c)⟩
  obtain ⟨h0, h1⟩ := nameP_yes.1 hn
  have g0 : ¬ seg < 0 := by omega
  have g1 : ¬ 1048576 < seg := by omega
  obtain ⟨A, cap, ev, hc2, hc1, HC⟩ := h.cells
  rw [hd] at HC
  have HFI := Lib.hid (rfind_miss h hx)
  have HFR := Lib.hid (fun W hW => rfree_ok h (W := W) hW)
  have c3 := (HC w (Below.refl _ _)).2
  have HCH := Lib.hid HC
  have h64i : ¬ (64 : Int) ≤ (R.L.length : Int) := by omega
  obtain ⟨Ab, cb, rfl, hb1, hb2, hb3⟩ := hb
  have HBB : Hid (BIs w (.slice Ab b.length cb) b) := ⟨Ab, cb, rfl, hb1, hb2, hb3⟩
  have hroom' : ¬ ((R.room.toNat - rused R.L : Nat) : Int) < (b.length : Int) := by omega
  by_cases hf : R.fuse = 0
  · rw [doP_dead hF hf]
    have HS := Lib.hid (rspent_no h hf)
    generalize R.room.toNat - rused R.L = f at *
    clear h hx hn hd hlk hF h0 h1 ev HC hf hc1 hc2 hroom hb3
    go_enter Tryz.func23, Tryz.ntmps23
    go_wp2_with fail
    refine (HFI.out).mono ?_
    rintro e w1 ⟨rfl, hb⟩
    have HB := Lib.hid hb
    clear hb
    go_wp2_with fail
    refine (HFR.out _ HB.out).mono ?_
    rintro e w2 ⟨rfl, hb⟩
    have HB2 := Lib.hid hb
    have kc1 := (HCH.out _ hb).1
    clear hb
    go_wp2_with fail
    refine (HS.out _ HB2.out).mono ?_
    rintro e w3 ⟨rfl, h3⟩
    have H3 := Lib.hid h3
    clear h3
    go_wp2_with fail
    go_ret
    exact ⟨rfl, H3.out⟩
  · rw [doP_app hF hf (y := ([], 0)) (by rw [hlk]; rfl)]
    have HS := Lib.hid (rspent_ok h hf)
    generalize hff : R.room.toNat - rused R.L = f at *
    have HFF := Lib.hid hff
    clear hn hd hlk hF h0 h1 HC hroom hb3 hff
    have h64' := Lib.hid h64
    have HH := Lib.hid h
    have HHX := Lib.hid hx
    have hf' := Lib.hid hf
    clear h hx hf
    go_enter Tryz.func23, Tryz.ntmps23
    go_wp2_with fail
    refine (HFI.out).mono ?_
    rintro e w1 ⟨rfl, hb⟩
    have HB := Lib.hid hb
    clear hb
    go_wp2_with fail
    refine (HFR.out _ HB.out).mono ?_
    rintro e w2 ⟨rfl, hb⟩
    have HB2 := Lib.hid hb
    have kc1 := (HCH.out _ hb).1
    clear hb
    go_wp2_with fail
    refine (HS.out _ HB2.out).mono ?_
    rintro e w3 ⟨rfl, h3, ht3⟩
    have H3 := Lib.hid h3
    have HT3 := Lib.hid ht3
    clear h3 ht3
    have HBX3 : Hid (BIs w3 (.slice none 0 0) []) := ⟨none, 0, rfl, Nat.le_refl _, by unfold maxLen; omega, fun i b hi => by simp at hi⟩
    have HBV3 := Lib.hid (HBB.out.far HT3.out hbr)
    have HW1 := Lib.hid (below_new (w := w3) (.cells #[.int .i64 seg, .slice none 0 0, .int .i64 0] 108))
    have HW2 := Lib.hid (below_new (w := w3.alloc (.cells #[.int .i64 seg, .slice none 0 0, .int .i64 0] 108)) (.cells #[] 5))
    have HROW := Lib.hid (row_empty (w3.alloc (.cells #[.int .i64 seg, .slice none 0 0, .int .i64 0] 108)) 5)
    have HSRC := Lib.hid (((HBX3.out.below HW1.out).below HW2.out).src)
    have HBV4 := Lib.hid ((HBV3.out.below HW1.out).below HW2.out)
    have HWB := Lib.hid (HW1.out.trans (HW2.out.mono (by rw [asz]; omega)))
    have HBOX := Lib.hid ((HW2.out.block w3.heap.size (by rw [asz]; omega)).trans (alloc_at w3 (.cells #[.int .i64 seg, .slice none 0 0, .int .i64 0] 108)))
    have HLX : Hid (0 ≤ 1048576 ∧ b.length ≤ 1048576) := ⟨by omega, by obtain ⟨m, e, hm⟩ := HH.out.room; have := HFF.out; rw [e, Int.toNat_natCast] at this; omega⟩
    have HASZ2 := Lib.hid (show ((w3.alloc (.cells #[.int .i64 seg, .slice none 0 0, .int .i64 0] 108)).alloc (.cells #[] 5)).heap.size = w3.heap.size + 1 + 1 from by rw [asz, asz])
    rw [asz] at HROW
    go_wp2_with (at_builtin; refine wpList_append_row _ _ Tryz.underlying32 rinfo5 rfl (by decide) (by decide) _ rfl _ _ 32 rfl 0 0 [] [] _ _ rfl rfl HROW.out HSRC.out ?_ ?_)
    · have := HLX.out.1; omega
    intro v4 w4 hrow4 hg4 hor4
    have hbl4 : ∃ g4, v4.ownBlock = some g4 ∧ w3.heap.size < g4 := by
      rcases hor4 with e | e
      · exact ⟨w3.heap.size + 1, e, by omega⟩
      · exact ⟨_, e, by first | omega | (rw [asz, asz]; omega)⟩
    obtain ⟨g4, eg4, hg4l⟩ := hbl4
    obtain ⟨c4, rfl⟩ := row_some hrow4 eg4
    have HB4 := Lib.hid (HWB.out.grown hg4 HWB.out.size (fun k hk => by cases hk; exact Nat.le_succ _))
    have hbox4 := (hg4.block w3.heap.size (by rw [HASZ2.out]; omega) (fun e => by injection e with e; exact absurd (show w3.heap.size = w3.heap.size + 1 from e) (by omega))).trans HBOX.out
    have HBOX4 := Lib.hid hbox4
    have hs4 : w3.heap.size + 1 + 1 ≤ w4.heap.size := by have := hg4.size; rw [HASZ2.out] at this; exact this
    have HSRC5 := Lib.hid ((HBV3.out.below HB4.out).src)
    have HROW4 := Lib.hid hrow4
    have HG4 : Hid (w3.heap.size < g4) := hg4l
    have HS4 := Lib.hid hs4
    clear hrow4 hg4 hor4 eg4 hg4l hbox4 hs4
    go_wp2_with (at_builtin; refine wpList_append_row _ _ Tryz.underlying32 rinfo5 rfl (by decide) (by decide) _ rfl _ _ 32 rfl 0 b.length [] (bc b) _ _ rfl rfl HROW4.out HSRC5.out ?_ ?_)
    · have := HLX.out; omega
    intro v5 w5 hrow5 hg5 hor5
    have hbl5 : ∃ g5, v5.ownBlock = some g5 ∧ w3.heap.size < g5 := by
      have h4 := HG4.out
      have h5 := HS4.out
      rcases hor5 with e | e
      · exact ⟨g4, e, h4⟩
      · exact ⟨_, e, by omega⟩
    obtain ⟨g5, eg5, hg5l⟩ := hbl5
    obtain ⟨c5, rfl⟩ := row_some hrow5 eg5
    have HB5 := Lib.hid (HB4.out.grown hg5 HB4.out.size (fun k hk => by cases hk; exact Nat.le_of_lt HG4.out))
    have hbox5 := (hg5.block w3.heap.size (by have := HS4.out; omega) (fun e => by injection e with e; exact absurd (show w3.heap.size = g4 from e) (by have := HG4.out; omega))).trans HBOX4.out
    have q0 := cell_of hbox5 0
    have q1 := cell_of hbox5 1
    have q2 := cell_of hbox5 2
    have qf := free0 hbox5 1
    simp at q0 q1 q2
    have hu2 : b.length + sizeS (dropS (absR R.L) seg) ≤ 1048576 := by
      obtain ⟨m, e, hm⟩ := HH.out.room
      have := HFF.out
      rw [e, Int.toNat_natCast] at this
      rw [dropS_none (absR_miss.1 HHX.out), absR_size]
      have := HH.out.used
      omega
    have HP := Lib.hid (app_fin (n := seg) (s := 0) HH.out hf'.out H3.out HT3.out HB5.out hrow5 hg5l (by omega) (by rw [dropS_none (absR_miss.1 HHX.out)]; unfold absR; rw [List.length_map]; exact h64'.out) hu2)
    have HQ5 : Hid (w3.heap.size < w5.heap.size) := by have := hg5.size; have := HS4.out; show _ < _; omega
    clear hrow5 hg5 hor5 eg5 hg5l hbox5 hu2
    go_wp2_with fail
    refine (HP.out).mono ?_
    rintro e w6 ⟨rfl, h6⟩
    have H6 := Lib.hid h6
    clear h6
    go_wp2_with fail
    go_ret
    exact ⟨rfl, H6.out⟩
end Go.Proofs.YtkdcknkgfgkoaaaGreatDoor
