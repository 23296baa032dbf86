/- The reference's tape: Do, Append. The reference's tape: Do in plain words. The reference's tape: Crash. The reference's tape: Crash, the walk. -/
import Derived.Test.YtnegnokielmgkaaGreatDoorZRefD
import Derived.Test.YtnegnokielmgkaaGreatDoorZKepA
import Derived.Test.YtnegnokielmgkaaGreatDoorZTapS
import Derived.Deep.RegionHeld
set_option linter.unusedSimpArgs false
set_option linter.unusedVariables false
set_option linter.unnecessarySimpa false
namespace Go.Proofs.YtnegnokielmgkaaGreatDoor
open Go.RowKit

theorem rinfo5 : (Tryz.prog.info? 5).map (fun i => (i.zero, i.size, i.bytes)) = some (some (.int .u8 0), 1, 1) := by kernel_rfl
theorem BIs.far {w w' : World} {r : Nat} {v : Value} {l : List UInt8} (h : BIs w v l) (ht : Touch (· = r) w w') (hf : l ≠ [] → ∀ A n c, v = .slice (some A) n c → A.block ≠ r) : BIs w' v l := by
  obtain ⟨A, cap, e, h1, h2, h3⟩ := h
  refine ⟨A, cap, e, h1, h2, fun i b hi => ?_⟩
  obtain ⟨a, q1, q2, q3⟩ := h3 i b hi
  subst q1
  exact ⟨a, rfl, Nat.lt_of_lt_of_le q2 ht.size, (World.cell?_of_block (a := a.add i) (by rw [add_block]; exact ht.block _ q2 (hf (fun e0 => by rw [e0] at hi; simp at hi) a _ _ e))).trans q3⟩
theorem row_empty (W : World) (t : TypeId) : RowIs (W.alloc (.cells #[] t)) 1 (.slice (some ⟨W.heap.size, 0, none⟩) 0 0) 0 [] :=
  .inr ⟨W.heap.size, 0, rfl, rfl, Nat.le_refl _, by rw [asz]; omega, by simp, by unfold maxLen; omega, (fun j b hj => by simp at hj), (fun j hj => by omega)⟩
theorem row_bis {w : World} {v : Value} {l : List UInt8} (h : RowIs w 1 v l.length (bc l)) : BIs w v l := by
  obtain ⟨A, cap, rfl, h1, h2, h3, h4, h5⟩ := h.form
  refine ⟨A, cap, rfl, h1, h2, fun i b hi => ?_⟩
  obtain ⟨g, rfl, hc⟩ := h5 i (.int .u8 (b.toNat : Int)) (by unfold bc; rw [List.getElem?_map, hi]; rfl)
  obtain ⟨g', e, hg'⟩ := h4 _ rfl
  cases e
  exact ⟨_, rfl, h.lt _ hg', by rw [add0]; exact hc⟩
/-- A row that is not nil. -/
theorem row_some {w : World} {v : Value} {n : Nat} {l : List Value} (h : RowIs w 1 v n l) {k : Nat} (hk : v.ownBlock = some k) : ∃ c, v = .slice (some ⟨k, 0, none⟩) n c := by
  rcases h with ⟨rfl, _, _⟩ | ⟨g, cap, rfl, _⟩
  · cases hk
  · cases hk; exact ⟨cap, rfl⟩
theorem app_fin {w w3 w5 : World} {r : Nat} {R : RTp} (h : RefOk w r R) (hf : R.fuse ≠ 0) (h3 : RefAt w3 r (rburnt R)) (ht : Touch (· = r) w w3) (hb5 : Below w3.heap.size w3 w5) {n : Int} {s g2 c2 : Nat} {d : List UInt8} (hrow : RowIs w5 1 (.slice (some ⟨g2, 0, none⟩) d.length c2) d.length (bc d)) (hg2 : w3.heap.size < g2) (hs : s ≤ d.length) (hlen : (dropS (absR R.L) n).length < 64) (hu : d.length + sizeS (dropS (absR R.L) n) ≤ 1048576) :
    Calls Tryz.prog 65 #[.pointer (some ⟨r, 0, none⟩), .agg #[.int .i64 n, .slice (some ⟨g2, 0, none⟩) d.length c2, .int .i64 (s : Int)]] (w5.setCell ⟨w3.heap.size, 1, none⟩ (.slice (some ⟨g2, 0, none⟩) d.length c2)) fun e w' => e = .returned (.tuple #[]) ∧ DoP w r R { burnP (plR R) with A := putS (absR R.L) (n, d, s) } w' := by
  have hr := heap_lt h3.head
  have hle := ht.size
  have hB : Below w3.heap.size w3 (w5.setCell ⟨w3.heap.size, 1, none⟩ (.slice (some ⟨g2, 0, none⟩) d.length c2)) := hb5.setCell (p := ⟨w3.heap.size, 1, none⟩) (Nat.le_refl _) _
  have hrow2 : RowIs (w5.setCell ⟨w3.heap.size, 1, none⟩ (.slice (some ⟨g2, 0, none⟩) d.length c2)) 1 (.slice (some ⟨g2, 0, none⟩) d.length c2) d.length (bc d) :=
    hrow.touch (S := (· = w3.heap.size)) ((Touch.refl (· = w3.heap.size) w5).setCell ⟨w3.heap.size, 1, none⟩ (fun _ => rfl) _) (fun k hk e => by cases hk; exact absurd (show g2 = w3.heap.size from e) (by omega))
  have hxf : ∀ A n' c, (Value.slice (some ⟨g2, 0, none⟩) d.length c2) = .slice (some A) n' c → A.block ≠ r := fun A n' c e => by
    injection e with e _ _
    injection e with e
    subst e
    exact Nat.ne_of_gt (Nat.lt_trans hr hg2)
  refine (rput_ok h h3 ⟨n, .slice (some ⟨g2, 0, none⟩) d.length c2, d, s⟩ hs hxf hB (row_bis hrow2)).mono ?_
  rintro e w' ⟨rfl, hp⟩
  exact ⟨rfl, do_put h hf h3 ht hB hp ⟨g2, _, _, rfl, hrow2.lt g2 rfl⟩ hxf hlen hu (fun A n' c e => .inr (by
    injection e with e _ _
    injection e with e
    subst e
    exact (show w.heap.size ≤ g2 by omega)))⟩

set_option maxRecDepth 100000 in
set_option maxHeartbeats 4000000 in
theorem rdo_app_hit {w : World} {r : Nat} {R : RTp} (h : RefOk w r R) {n : Int} {bv : Value} {b : List UInt8} (hb : BIs w bv b) (hbr : b ≠ [] → ∀ A n c, bv = .slice (some A) n c → A.block ≠ r) {j : Nat} {x : RSeg} (hx : R.L[j]? = some x) (hn : nameP x.n = true) (hd : R.down = false) (hroom : b.length ≤ R.room.toNat - rused R.L) : Calls Tryz.prog 23 #[.pointer (some ⟨r, 0, none⟩), .int .i64 0, .int .i64 x.n, .int .i64 n, bv] w fun e w' => e = .returned (.int .i64 (doP (plR R) 0 x.n n b).1) ∧ DoP w r R (doP (plR R) 0 x.n n b).2 w' := by
  have hlk := h.lookP hx
  have hF : Fine (plR R) 0 x.n n b := ⟨hn, hd, (fun c => absurd rfl c), (fun _ => ⟨by show _ ≤ R.room.toNat - sizeS (absR R.L); rw [absR_size]; exact hroom, fun c => by rw [hlk] at c; cases c⟩), (fun c => by cases c)⟩
  obtain ⟨h0, h1⟩ := nameP_yes.1 hn
  have g0 : ¬ x.n < 0 := by omega
  have g1 : ¬ 1048576 < x.n := by omega
  obtain ⟨A, cap, ev, hc2, hc1, HC⟩ := h.cells
  rw [hd] at HC
  have HFI := Lib.hid (rfind_hit h hx rfl)
  have HFR := Lib.hid (fun W hW => rfree_ok h (W := W) hW)
  have c3 := (HC w (Below.refl _ _)).2
  have gj : ¬ (j : Int) < 0 := by omega
  obtain ⟨Ab, cb, rfl, hb1, hb2, hb3⟩ := hb
  have HBB : Hid (BIs w (.slice Ab b.length cb) b) := ⟨Ab, cb, rfl, hb1, hb2, hb3⟩
  have hroom' : ¬ ((R.room.toNat - rused R.L : Nat) : Int) < (b.length : Int) := by omega
  by_cases hf : R.fuse = 0
  · rw [doP_dead hF hf]
    have HS := Lib.hid (rspent_no h hf)
    generalize R.room.toNat - rused R.L = f at *
    clear h hx hn hd hlk hF h0 h1 ev HC hf hc1 hc2 hroom hb3
    go_enter Tryz.func23, Tryz.ntmps23
    go_wp2_with fail
    refine (HFI.out).mono ?_
    rintro e w1 ⟨rfl, hb⟩
    have HB := Lib.hid hb
    clear hb
    go_wp2_with fail
    refine (HFR.out _ HB.out).mono ?_
    rintro e w2 ⟨rfl, hb⟩
    have HB2 := Lib.hid hb
    clear hb
    go_wp2_with fail
    refine (HS.out _ HB2.out).mono ?_
    rintro e w3 ⟨rfl, h3⟩
    have H3 := Lib.hid h3
    clear h3
    go_wp2_with fail
    go_ret
    exact ⟨rfl, H3.out⟩
  · rw [doP_app hF hf (y := (x.b, x.s)) (by rw [hlk]; rfl)]
    have HS := Lib.hid (rspent_ok h hf)
    obtain ⟨Ax, cx, exv, hx1, hx2, hx3⟩ := (h.ref.segs x (List.mem_of_getElem? hx)).1
    have HBC := Lib.hid (fun (w3 : World) (h3 : RefAt w3 r (rburnt R)) => burnt_cells h h3 ev hx)
    have HEX := Lib.hid exv
    have hjl : (j : Int) < (R.L.length : Int) := by have := (List.getElem?_eq_some_iff.1 hx).1; omega
    generalize hff : R.room.toNat - rused R.L = f at *
    have HFF := Lib.hid hff
    clear hn hd hlk hF h0 h1 HC exv hroom hb3 hx3 hff
    have HH := Lib.hid h
    have HHX := Lib.hid hx
    have hf' := Lib.hid hf
    clear h hx hf
    go_enter Tryz.func23, Tryz.ntmps23
    go_wp2_with fail
    refine (HFI.out).mono ?_
    rintro e w1 ⟨rfl, hb⟩
    have HB := Lib.hid hb
    clear hb
    go_wp2_with fail
    refine (HFR.out _ HB.out).mono ?_
    rintro e w2 ⟨rfl, hb⟩
    have HB2 := Lib.hid hb
    clear hb
    go_wp2_with fail
    refine (HS.out _ HB2.out).mono ?_
    rintro e w3 ⟨rfl, h3, ht3⟩
    obtain ⟨k, g, rfl, hg, k0, k1, k2⟩ := HBC.out w3 h3
    rw [HEX.out] at k1
    have hr3 := heap_lt h3.head
    have kA := cell_old k hr3 (.cells #[.int .i64 x.n, .slice none 0 0, .int .i64 0] 108)
    have kB := cell_old k0 hg (.cells #[.int .i64 x.n, .slice none 0 0, .int .i64 0] 108)
    have kC := cell_old k1 hg (.cells #[.int .i64 x.n, .slice none 0 0, .int .i64 0] 108)
    have kD := cell_old k2 hg (.cells #[.int .i64 x.n, .slice none 0 0, .int .i64 0] 108)
    have ha : (⟨g, 0, none⟩ : Addr).add (j * 3) = ⟨g, j * 3, none⟩ := add0 _ _
    have H3 := Lib.hid h3
    have HT3 := Lib.hid ht3
    clear h3 ht3
    have HBX3 : Hid (BIs w3 x.v x.b) := (H3.out.segs x (by rw [(rburnt_L R).1]; exact List.mem_of_getElem? HHX.out)).1
    have HBV3 := Lib.hid (HBB.out.far HT3.out hbr)
    rw [HEX.out] at HBX3
    have HW1 := Lib.hid (below_new (w := w3) (.cells #[.int .i64 x.n, .slice Ax x.b.length cx, .int .i64 (x.s : Int)] 108))
    have HW2 := Lib.hid (below_new (w := w3.alloc (.cells #[.int .i64 x.n, .slice Ax x.b.length cx, .int .i64 (x.s : Int)] 108)) (.cells #[] 5))
    have HROW := Lib.hid (row_empty (w3.alloc (.cells #[.int .i64 x.n, .slice Ax x.b.length cx, .int .i64 (x.s : Int)] 108)) 5)
    have HSRC := Lib.hid (((HBX3.out.below HW1.out).below HW2.out).src)
    have HBV4 := Lib.hid ((HBV3.out.below HW1.out).below HW2.out)
    have HWB := Lib.hid (HW1.out.trans (HW2.out.mono (by rw [asz]; omega)))
    have HBOX := Lib.hid ((HW2.out.block w3.heap.size (by rw [asz]; omega)).trans (alloc_at w3 (.cells #[.int .i64 x.n, .slice Ax x.b.length cx, .int .i64 (x.s : Int)] 108)))
    have HLX : Hid (x.b.length ≤ 1048576 ∧ b.length ≤ 1048576) := ⟨by have := (HH.out.hitLen HHX.out).2; have := HH.out.used; omega, by obtain ⟨m, e, hm⟩ := HH.out.room; have := HFF.out; rw [e, Int.toNat_natCast] at this; omega⟩
    have HASZ2 := Lib.hid (show ((w3.alloc (.cells #[.int .i64 x.n, .slice Ax x.b.length cx, .int .i64 (x.s : Int)] 108)).alloc (.cells #[] 5)).heap.size = w3.heap.size + 1 + 1 from by rw [asz, asz])
    rw [asz] at HROW
    clear k k0 k1 k2
    go_wp2_with (at_builtin; refine wpList_append_row _ _ Tryz.underlying32 rinfo5 rfl (by decide) (by decide) _ rfl _ _ 32 rfl 0 x.b.length [] (bc x.b) _ _ rfl rfl HROW.out HSRC.out ?_ ?_)
    · have := HLX.out.1; omega
    intro v4 w4 hrow4 hg4 hor4
    have hbl4 : ∃ g4, v4.ownBlock = some g4 ∧ w3.heap.size < g4 := by
      rcases hor4 with e | e
      · exact ⟨w3.heap.size + 1, e, by omega⟩
      · exact ⟨_, e, by first | omega | (rw [asz, asz]; omega)⟩
    obtain ⟨g4, eg4, hg4l⟩ := hbl4
    obtain ⟨c4, rfl⟩ := row_some hrow4 eg4
    have HB4 := Lib.hid (HWB.out.grown hg4 HWB.out.size (fun k hk => by cases hk; exact Nat.le_succ _))
    have hbox4 := (hg4.block w3.heap.size (by rw [HASZ2.out]; omega) (fun e => by injection e with e; exact absurd (show w3.heap.size = w3.heap.size + 1 from e) (by omega))).trans HBOX.out
    have HBOX4 := Lib.hid hbox4
    have hs4 : w3.heap.size + 1 + 1 ≤ w4.heap.size := by have := hg4.size; rw [HASZ2.out] at this; exact this
    have HSRC5 := Lib.hid ((HBV3.out.below HB4.out).src)
    have HROW4 := Lib.hid hrow4
    have HG4 : Hid (w3.heap.size < g4) := hg4l
    have HS4 := Lib.hid hs4
    clear hrow4 hg4 hor4 eg4 hg4l hbox4 hs4 kA kB kC kD
    go_wp2_with (at_builtin; refine wpList_append_row _ _ Tryz.underlying32 rinfo5 rfl (by decide) (by decide) _ rfl _ _ 32 rfl x.b.length b.length (bc x.b) (bc b) _ _ rfl rfl HROW4.out HSRC5.out ?_ ?_)
    · have := HLX.out; omega
    intro v5 w5 hrow5 hg5 hor5
    have hbl5 : ∃ g5, v5.ownBlock = some g5 ∧ w3.heap.size < g5 := by
      have h4 := HG4.out
      have h5 := HS4.out
      rcases hor5 with e | e
      · exact ⟨g4, e, h4⟩
      · exact ⟨_, e, by omega⟩
    obtain ⟨g5, eg5, hg5l⟩ := hbl5
    obtain ⟨c5, rfl⟩ := row_some hrow5 eg5
    have HB5 := Lib.hid (HB4.out.grown hg5 HB4.out.size (fun k hk => by cases hk; exact Nat.le_of_lt HG4.out))
    have hbox5 := (hg5.block w3.heap.size (by have := HS4.out; omega) (fun e => by injection e with e; exact absurd (show w3.heap.size = g4 from e) (by have := HG4.out; omega))).trans HBOX4.out
    have q0 := cell_of hbox5 0
    have q1 := cell_of hbox5 1
    have q2 := cell_of hbox5 2
    have qf := free0 hbox5 1
    simp at q0 q1 q2
    rw [← bc_append, ← List.length_append] at hrow5
    have HU := HH.out.used
    have HH2 := (HH.out.hitLen HHX.out).2
    have hu2 : x.b.length + b.length + sizeS (dropS (absR R.L) x.n) ≤ 1048576 := by
      obtain ⟨m, e, hm⟩ := HH.out.room
      have := HFF.out
      rw [e, Int.toNat_natCast] at this
      omega
    have hs := (HH.out.ref.segs x (List.mem_of_getElem? HHX.out)).2
    have HP := Lib.hid (app_fin (n := x.n) (s := x.s) HH.out hf'.out H3.out HT3.out HB5.out hrow5 hg5l (by rw [List.length_append]; omega) (HH.out.hitLen HHX.out).1 (by rw [List.length_append]; omega))
    rw [List.length_append] at HP
    have HQ5 : Hid (w3.heap.size < w5.heap.size) := by have := hg5.size; have := HS4.out; show _ < _; omega
    clear hrow5 hg5 hor5 eg5 hg5l hbox5 HU HH2 hu2 hs
    go_wp2_with fail
    refine (HP.out).mono ?_
    rintro e w6 ⟨rfl, h6⟩
    have H6 := Lib.hid h6
    clear h6
    go_wp2_with fail
    go_ret
    exact ⟨rfl, H6.out⟩
set_option maxRecDepth 100000 in
set_option maxHeartbeats 4000000 in
theorem rdo_app_miss {w : World} {r : Nat} {R : RTp} (h : RefOk w r R) {n : Int} {bv : Value} {b : List UInt8} (hb : BIs w bv b) (hbr : b ≠ [] → ∀ A n c, bv = .slice (some A) n c → A.block ≠ r) {seg : Int} (hx : ∀ x ∈ R.L, x.n ≠ seg) (hn : nameP seg = true) (hd : R.down = false) (h64 : R.L.length < 64) (hroom : b.length ≤ R.room.toNat - rused R.L) : Calls Tryz.prog 23 #[.pointer (some ⟨r, 0, none⟩), .int .i64 0, .int .i64 seg, .int .i64 n, bv] w fun e w' => e = .returned (.int .i64 (doP (plR R) 0 seg n b).1) ∧ DoP w r R (doP (plR R) 0 seg n b).2 w' := by
  have hlk := h.miss hx
  have hF : Fine (plR R) 0 seg n b := ⟨hn, hd, (fun c => absurd rfl c), (fun _ => ⟨by show _ ≤ R.room.toNat - sizeS (absR R.L); rw [absR_size]; exact hroom, fun c => by show (absR R.L).length < 64; unfold absR; rw [List.length_map]; exact h64⟩), (fun c => by cases c)⟩
  obtain ⟨h0, h1⟩ := nameP_yes.1 hn
  have g0 : ¬ seg < 0 := by omega
  have g1 : ¬ 1048576 < seg := by omega
  obtain ⟨A, cap, ev, hc2, hc1, HC⟩ := h.cells
  rw [hd] at HC
  have HFI := Lib.hid (rfind_miss h hx)
  have HFR := Lib.hid (fun W hW => rfree_ok h (W := W) hW)
  have c3 := (HC w (Below.refl _ _)).2
  have HCH := Lib.hid HC
  have h64i : ¬ (64 : Int) ≤ (R.L.length : Int) := by omega
  obtain ⟨Ab, cb, rfl, hb1, hb2, hb3⟩ := hb
  have HBB : Hid (BIs w (.slice Ab b.length cb) b) := ⟨Ab, cb, rfl, hb1, hb2, hb3⟩
  have hroom' : ¬ ((R.room.toNat - rused R.L : Nat) : Int) < (b.length : Int) := by omega
  by_cases hf : R.fuse = 0
  · rw [doP_dead hF hf]
    have HS := Lib.hid (rspent_no h hf)
    generalize R.room.toNat - rused R.L = f at *
    clear h hx hn hd hlk hF h0 h1 ev HC hf hc1 hc2 hroom hb3
    go_enter Tryz.func23, Tryz.ntmps23
    go_wp2_with fail
    refine (HFI.out).mono ?_
    rintro e w1 ⟨rfl, hb⟩
    have HB := Lib.hid hb
    clear hb
    go_wp2_with fail
    refine (HFR.out _ HB.out).mono ?_
    rintro e w2 ⟨rfl, hb⟩
    have HB2 := Lib.hid hb
    have kc1 := (HCH.out _ hb).1
    clear hb
    go_wp2_with fail
    refine (HS.out _ HB2.out).mono ?_
    rintro e w3 ⟨rfl, h3⟩
    have H3 := Lib.hid h3
    clear h3
    go_wp2_with fail
    go_ret
    exact ⟨rfl, H3.out⟩
  · rw [doP_app hF hf (y := ([], 0)) (by rw [hlk]; rfl)]
    have HS := Lib.hid (rspent_ok h hf)
    generalize hff : R.room.toNat - rused R.L = f at *
    have HFF := Lib.hid hff
    clear hn hd hlk hF h0 h1 HC hroom hb3 hff
    have h64' := Lib.hid h64
    have HH := Lib.hid h
    have HHX := Lib.hid hx
    have hf' := Lib.hid hf
    clear h hx hf
    go_enter Tryz.func23, Tryz.ntmps23
    go_wp2_with fail
    refine (HFI.out).mono ?_
    rintro e w1 ⟨rfl, hb⟩
    have HB := Lib.hid hb
    clear hb
    go_wp2_with fail
    refine (HFR.out _ HB.out).mono ?_
    rintro e w2 ⟨rfl, hb⟩
    have HB2 := Lib.hid hb
    have kc1 := (HCH.out _ hb).1
    clear hb
    go_wp2_with fail
    refine (HS.out _ HB2.out).mono ?_
    rintro e w3 ⟨rfl, h3, ht3⟩
    have H3 := Lib.hid h3
    have HT3 := Lib.hid ht3
    clear h3 ht3
    have HBX3 : Hid (BIs w3 (.slice none 0 0) []) := ⟨none, 0, rfl, Nat.le_refl _, by unfold maxLen; omega, fun i b hi => by simp at hi⟩
    have HBV3 := Lib.hid (HBB.out.far HT3.out hbr)
    have HW1 := Lib.hid (below_new (w := w3) (.cells #[.int .i64 seg, .slice none 0 0, .int .i64 0] 108))
    have HW2 := Lib.hid (below_new (w := w3.alloc (.cells #[.int .i64 seg, .slice none 0 0, .int .i64 0] 108)) (.cells #[] 5))
    have HROW := Lib.hid (row_empty (w3.alloc (.cells #[.int .i64 seg, .slice none 0 0, .int .i64 0] 108)) 5)
    have HSRC := Lib.hid (((HBX3.out.below HW1.out).below HW2.out).src)
    have HBV4 := Lib.hid ((HBV3.out.below HW1.out).below HW2.out)
    have HWB := Lib.hid (HW1.out.trans (HW2.out.mono (by rw [asz]; omega)))
    have HBOX := Lib.hid ((HW2.out.block w3.heap.size (by rw [asz]; omega)).trans (alloc_at w3 (.cells #[.int .i64 seg, .slice none 0 0, .int .i64 0] 108)))
    have HLX : Hid (0 ≤ 1048576 ∧ b.length ≤ 1048576) := ⟨by omega, by obtain ⟨m, e, hm⟩ := HH.out.room; have := HFF.out; rw [e, Int.toNat_natCast] at this; omega⟩
    have HASZ2 := Lib.hid (show ((w3.alloc (.cells #[.int .i64 seg, .slice none 0 0, .int .i64 0] 108)).alloc (.cells #[] 5)).heap.size = w3.heap.size + 1 + 1 from by rw [asz, asz])
    rw [asz] at HROW
    go_wp2_with (at_builtin; refine wpList_append_row _ _ Tryz.underlying32 rinfo5 rfl (by decide) (by decide) _ rfl _ _ 32 rfl 0 0 [] [] _ _ rfl rfl HROW.out HSRC.out ?_ ?_)
    · have := HLX.out.1; omega
    intro v4 w4 hrow4 hg4 hor4
    have hbl4 : ∃ g4, v4.ownBlock = some g4 ∧ w3.heap.size < g4 := by
      rcases hor4 with e | e
      · exact ⟨w3.heap.size + 1, e, by omega⟩
      · exact ⟨_, e, by first | omega | (rw [asz, asz]; omega)⟩
    obtain ⟨g4, eg4, hg4l⟩ := hbl4
    obtain ⟨c4, rfl⟩ := row_some hrow4 eg4
    have HB4 := Lib.hid (HWB.out.grown hg4 HWB.out.size (fun k hk => by cases hk; exact Nat.le_succ _))
    have hbox4 := (hg4.block w3.heap.size (by rw [HASZ2.out]; omega) (fun e => by injection e with e; exact absurd (show w3.heap.size = w3.heap.size + 1 from e) (by omega))).trans HBOX.out
    have HBOX4 := Lib.hid hbox4
    have hs4 : w3.heap.size + 1 + 1 ≤ w4.heap.size := by have := hg4.size; rw [HASZ2.out] at this; exact this
    have HSRC5 := Lib.hid ((HBV3.out.below HB4.out).src)
    have HROW4 := Lib.hid hrow4
    have HG4 : Hid (w3.heap.size < g4) := hg4l
    have HS4 := Lib.hid hs4
    clear hrow4 hg4 hor4 eg4 hg4l hbox4 hs4
    go_wp2_with (at_builtin; refine wpList_append_row _ _ Tryz.underlying32 rinfo5 rfl (by decide) (by decide) _ rfl _ _ 32 rfl 0 b.length [] (bc b) _ _ rfl rfl HROW4.out HSRC5.out ?_ ?_)
    · have := HLX.out; omega
    intro v5 w5 hrow5 hg5 hor5
    have hbl5 : ∃ g5, v5.ownBlock = some g5 ∧ w3.heap.size < g5 := by
      have h4 := HG4.out
      have h5 := HS4.out
      rcases hor5 with e | e
      · exact ⟨g4, e, h4⟩
      · exact ⟨_, e, by omega⟩
    obtain ⟨g5, eg5, hg5l⟩ := hbl5
    obtain ⟨c5, rfl⟩ := row_some hrow5 eg5
    have HB5 := Lib.hid (HB4.out.grown hg5 HB4.out.size (fun k hk => by cases hk; exact Nat.le_of_lt HG4.out))
    have hbox5 := (hg5.block w3.heap.size (by have := HS4.out; omega) (fun e => by injection e with e; exact absurd (show w3.heap.size = g4 from e) (by have := HG4.out; omega))).trans HBOX4.out
    have q0 := cell_of hbox5 0
    have q1 := cell_of hbox5 1
    have q2 := cell_of hbox5 2
    have qf := free0 hbox5 1
    simp at q0 q1 q2
    have hu2 : b.length + sizeS (dropS (absR R.L) seg) ≤ 1048576 := by
      obtain ⟨m, e, hm⟩ := HH.out.room
      have := HFF.out
      rw [e, Int.toNat_natCast] at this
      rw [dropS_none (absR_miss.1 HHX.out), absR_size]
      have := HH.out.used
      omega
    have HP := Lib.hid (app_fin (n := seg) (s := 0) HH.out hf'.out H3.out HT3.out HB5.out hrow5 hg5l (by omega) (by rw [dropS_none (absR_miss.1 HHX.out)]; unfold absR; rw [List.length_map]; exact h64'.out) hu2)
    have HQ5 : Hid (w3.heap.size < w5.heap.size) := by have := hg5.size; have := HS4.out; show _ < _; omega
    clear hrow5 hg5 hor5 eg5 hg5l hbox5 hu2
    go_wp2_with fail
    refine (HP.out).mono ?_
    rintro e w6 ⟨rfl, h6⟩
    have H6 := Lib.hid h6
    clear h6
    go_wp2_with fail
    go_ret
    exact ⟨rfl, H6.out⟩
end Go.Proofs.YtnegnokielmgkaaGreatDoor

namespace Go.Proofs.YtnegnokielmgkaaGreatDoor
open Go.RowKit

section
variable {w : World} {r : Nat} {R : RTp}
theorem rdo_cases (R : RTp) (seg : Int) : nameP seg = false ∨ (nameP seg = true ∧ R.down = true) ∨ (nameP seg = true ∧ R.down = false ∧ ∀ x ∈ R.L, x.n ≠ seg) ∨ (nameP seg = true ∧ R.down = false ∧ ∃ (j : Nat) (x : RSeg), R.L[j]? = some x ∧ x.n = seg) := by
  cases h1 : nameP seg with
  | false => exact .inl rfl
  | true =>
    cases h2 : R.down with
    | true => exact .inr (.inl ⟨rfl, rfl⟩)
    | false =>
      by_cases hx : ∃ x ∈ R.L, x.n = seg
      · obtain ⟨x, hx, hn⟩ := hx
        obtain ⟨j, hj⟩ := List.getElem?_of_mem hx
        exact .inr (.inr (.inr ⟨rfl, rfl, j, x, hj, hn⟩))
      · exact .inr (.inr (.inl ⟨rfl, rfl, fun x h1 h2 => hx ⟨x, h1, h2⟩⟩))
theorem rdo1 (h : RefOk w r R) (seg n : Int) (b : List UInt8) (bv : Value) : Calls Tryz.prog 23 #[.pointer (some ⟨r, 0, none⟩), .int .i64 1, .int .i64 seg, .int .i64 n, bv] w fun e w' => e = .returned (.int .i64 (doP (plR R) 1 seg n b).1) ∧ DoP w r R (doP (plR R) 1 seg n b).2 w' := by
  rcases rdo_cases R seg with h1 | ⟨h1, h2⟩ | ⟨h1, h2, h3⟩ | ⟨h1, h2, j, x, hj, rfl⟩
  · rw [doP_name _ h1]
    exact (rdo_name h1).mono fun e w' k => ⟨k.1, by rw [← k.2]; exact .same h (Below.refl _ _)⟩
  · rw [doP_down _ h1 h2]
    exact (rdo_down h h1 h2).mono fun e w' k => ⟨k.1, by rw [← k.2]; exact .same h (Below.refl _ _)⟩
  · rw [doP_none h1 h2 (h.miss h3) (by decide)]
    exact (rdo_none h h1 h2 (.inl rfl) h3).mono fun e w' k => ⟨k.1, .same h k.2⟩
  · exact rdo_sync h hj h1 h2
theorem rdo3 (h : RefOk w r R) (seg n : Int) (b : List UInt8) (bv : Value) : Calls Tryz.prog 23 #[.pointer (some ⟨r, 0, none⟩), .int .i64 3, .int .i64 seg, .int .i64 n, bv] w fun e w' => e = .returned (.int .i64 (doP (plR R) 3 seg n b).1) ∧ DoP w r R (doP (plR R) 3 seg n b).2 w' := by
  rcases rdo_cases R seg with h1 | ⟨h1, h2⟩ | ⟨h1, h2, h3⟩ | ⟨h1, h2, j, x, hj, rfl⟩
  · rw [doP_name _ h1]
    exact (rdo_name h1).mono fun e w' k => ⟨k.1, by rw [← k.2]; exact .same h (Below.refl _ _)⟩
  · rw [doP_down _ h1 h2]
    exact (rdo_down h h1 h2).mono fun e w' k => ⟨k.1, by rw [← k.2]; exact .same h (Below.refl _ _)⟩
  · rw [doP_none h1 h2 (h.miss h3) (by decide)]
    exact (rdo_none h h1 h2 (.inr (.inr rfl)) h3).mono fun e w' k => ⟨k.1, .same h k.2⟩
  · exact rdo_drop h hj h1 h2
theorem rdo2 (h : RefOk w r R) (seg n : Int) (b : List UInt8) (bv : Value) : Calls Tryz.prog 23 #[.pointer (some ⟨r, 0, none⟩), .int .i64 2, .int .i64 seg, .int .i64 n, bv] w fun e w' => e = .returned (.int .i64 (doP (plR R) 2 seg n b).1) ∧ DoP w r R (doP (plR R) 2 seg n b).2 w' := by
  rcases rdo_cases R seg with h1 | ⟨h1, h2⟩ | ⟨h1, h2, h3⟩ | ⟨h1, h2, j, x, hj, rfl⟩
  · rw [doP_name _ h1]
    exact (rdo_name h1).mono fun e w' k => ⟨k.1, by rw [← k.2]; exact .same h (Below.refl _ _)⟩
  · rw [doP_down _ h1 h2]
    exact (rdo_down h h1 h2).mono fun e w' k => ⟨k.1, by rw [← k.2]; exact .same h (Below.refl _ _)⟩
  · rw [doP_none h1 h2 (h.miss h3) (by decide)]
    exact (rdo_none h h1 h2 (.inr (.inl rfl)) h3).mono fun e w' k => ⟨k.1, .same h k.2⟩
  · by_cases hn : n < 0 ∨ (x.b.length : Int) < n
    · rw [doP_arg (y := (x.b, x.s)) h1 h2 (h.lookP hj) hn]
      exact (rdo_arg (b := b) h hj h1 h2 hn).mono fun e w' k => ⟨k.1, .same h k.2⟩
    · obtain ⟨m, rfl⟩ := Int.eq_ofNat_of_zero_le (show 0 ≤ n by omega)
      exact rdo_trim h hj h1 h2 (by omega)
theorem rdo0 (h : RefOk w r R) (seg n : Int) {b : List UInt8} {bv : Value} (hb : BIs w bv b) (hbr : b ≠ [] → ∀ A n c, bv = .slice (some A) n c → A.block ≠ r) : Calls Tryz.prog 23 #[.pointer (some ⟨r, 0, none⟩), .int .i64 0, .int .i64 seg, .int .i64 n, bv] w fun e w' => e = .returned (.int .i64 (doP (plR R) 0 seg n b).1) ∧ DoP w r R (doP (plR R) 0 seg n b).2 w' := by
  have hsz : sizeS (plR R).A = rused R.L := absR_size R.L
  have hln : (plR R).A.length = R.L.length := by show (absR R.L).length = _; unfold absR; rw [List.length_map]
  cases h1 : nameP seg with
  | false =>
    rw [doP_name _ h1]
    exact (rdo_name h1).mono fun e w' k => ⟨k.1, by rw [← k.2]; exact .same h (Below.refl _ _)⟩
  | true =>
    cases h2 : R.down with
    | true =>
      rw [doP_down _ h1 h2]
      exact (rdo_down h h1 h2).mono fun e w' k => ⟨k.1, by rw [← k.2]; exact .same h (Below.refl _ _)⟩
    | false =>
      by_cases hfull : R.room.toNat - rused R.L < b.length ∨ (∀ x ∈ R.L, x.n ≠ seg) ∧ 64 ≤ R.L.length
      · rw [doP_full h1 h2 (by rw [hsz, hln]; exact hfull.imp_right fun k => ⟨h.miss k.1, k.2⟩)]
        obtain ⟨Ab, cb, rfl, _⟩ := hb
        exact (rdo_full h h1 h2 hfull).mono fun e w' k => ⟨k.1, .same h k.2⟩
      · have hroom : b.length ≤ R.room.toNat - rused R.L := Nat.le_of_not_lt fun k => hfull (.inl k)
        by_cases hx : ∃ x ∈ R.L, x.n = seg
        · obtain ⟨x, hx, rfl⟩ := hx
          obtain ⟨j, hj⟩ := List.getElem?_of_mem hx
          exact rdo_app_hit h hb hbr hj h1 h2 hroom
        · have hm : ∀ x ∈ R.L, x.n ≠ seg := fun x h1 h2 => hx ⟨x, h1, h2⟩
          exact rdo_app_miss h hb hbr hm h1 h2 (Nat.lt_of_not_le fun k => hfull (.inr ⟨hm, k⟩)) hroom
end
end Go.Proofs.YtnegnokielmgkaaGreatDoor

namespace Go.Proofs.YtnegnokielmgkaaGreatDoor
open Go.RowKit

theorem step_append_row {P : Program} {ops : Array Oper} {o : Oper} {a : Act} {w : World} {K : Act → World → Prop} {Q : Exit → Act → World → Prop} {E : Prop} (T EL : TypeId) (hT : P.underlying T = some (.slice EL)) {zv : Value} {z by' : Nat} (hE : (P.info? EL).map (fun i => (i.zero, i.size, i.bytes)) = some (some zv, z, by')) (hzv : zv.cells.size = z) (hz0 : 0 < z) (hby : by' ≤ 1024)
    (hgd : o.guard = none) (s x : Operand) (tx : TypeId) (ho : o.op = .call { callee := .builtin .append, args := #[s, x], argTypes := #[T, tx] })
    (n m : Nat) (l ms : List Value) (v y : Value) (hs : a.eval s = v) (hx : a.eval x = y) (hown : RowIs w z v n l) (hsrc : Src P z tx y m ms w) (hlen : n + m ≤ 16777216)
    (h : ∀ v' w', RowIs w' z v' (n + m) (l ++ ms) → w.grownBy w' v.ownBlock → (v'.ownBlock = v.ownBlock ∨ v'.ownBlock = some w.heap.size) → K (a.put o.dst v') w') : if Region.wanted o (yielded ops a.tmps) = true then Oper.wp P o a w K Q else E := by
  have hw : Region.wanted o (yielded ops a.tmps) = true := by simp [Region.wanted, hgd]
  rw [if_pos hw]
  obtain ⟨v', w', hr, h2, h3, h4⟩ := run_append_row w T EL o.type tx hT hE hzv hz0 hby v n m l ms y hown hsrc hlen
  unfold Oper.wp execOp
  simp only [ho, resolve, invoke, builtin, Sem.run_bind, Sem.run_pure, Result.andThen_ok, List.map_toArray, List.map_cons, List.map_nil, hs, hx, hr]
  exact h v' w' h2 h3 h4
theorem setCell_sz (w : World) (a : Addr) (v : Value) : (w.setCell a v).heap.size = w.heap.size := by simp [World.setCell]
/-- The tape that a crash makes, on its way. -/
structure CrIn (w : World) (R : RTp) (ks : List Int) (c k : Nat) (C : RTp) (W : World) : Prop where
  ref : RefAt W c C
  far : RFar c C.L
  base : ∀ x ∈ C.L, ∃ g n cc, x.v = .slice (some ⟨g, 0, none⟩) n cc ∧ w.heap.size ≤ g ∧ g < W.heap.size
  apart : ∀ x ∈ C.L, ∀ A n cc, x.v = .slice (some A) n cc → C.v.ownBlock ≠ some A.block
  abs : absR C.L = crI (absR R.L) ks k
  room : C.room = R.room
  fuse : C.fuse = -1
  down : C.down = false
  own : ∀ g, C.v.ownBlock = some g → w.heap.size ≤ g
  below : Below w.heap.size w W
theorem CrIn.keep {w : World} {R : RTp} {ks : List Int} {c k : Nat} {C : RTp} {W W' : World} (h : CrIn w R ks c k C W) (hb : Below W.heap.size W W') : CrIn w R ks c k C W' :=
  ⟨h.ref.below hb, h.far, (fun x hx => by obtain ⟨g, n, cc, e, h1, h2⟩ := h.base x hx; exact ⟨g, n, cc, e, h1, Nat.lt_of_lt_of_le h2 hb.size⟩), h.apart, h.abs, h.room, h.fuse, h.down, h.own, h.below.trans (hb.mono h.below.size)⟩
theorem CrIn.skip {w : World} {R : RTp} {ks : List Int} {c k : Nat} {C : RTp} {W : World} (h : CrIn w R ks c k C W) {x : RSeg} (hx : R.L[k]? = some x) (h0 : lastS x.ab (ks[k]?.getD 0) = 0) : CrIn w R ks c (k + 1) C W :=
  ⟨h.ref, h.far, h.base, h.apart, by rw [h.abs, crI_succ ks (absR_at hx)]; show _ = _ ++ keptS x.ab _; rw [keptS_none h0, List.append_nil], h.room, h.fuse, h.down, h.own, h.below⟩
/-- One more segment, behind the store. -/
theorem CrIn.add {w : World} {R : RTp} {ks : List Int} {c k : Nat} {C : RTp} {W W5 : World} (h : CrIn w R ks c k C W) (hc : w.heap.size ≤ c) {x : RSeg} (hx : R.L[k]? = some x) {n : Nat} (hn : lastS x.ab (ks[k]?.getD 0) = n) (h0 : n ≠ 0) (hxs : x.s ≤ x.b.length)
    {g cc : Nat} (hT : Touch (fun i => C.v.ownBlock = some i) W W5) (hbis : BIs W5 (.slice (some ⟨g, 0, none⟩) n cc) (x.b.take n)) (hg : W.heap.size ≤ g) {l : Value} (hrow : RowIs W5 3 l (C.L.length + 1) (C.L.flatMap RSeg.cells ++ [.int .i64 x.n, .slice (some ⟨g, 0, none⟩) n cc, .int .i64 (n : Int)])) (hl : l.ownBlock = C.v.ownBlock ∨ ∃ i, l.ownBlock = some i ∧ W.heap.size ≤ i) (hlg : l.ownBlock ≠ some g) (hg5 : g < W5.heap.size) :
    ∃ C', CrIn w R ks c (k + 1) C' (W5.setCell ⟨c, 1, none⟩ l) := by
  have hclt := heap_lt h.ref.head
  have hb := h.below
  have hown : ∀ i, l.ownBlock = some i → w.heap.size ≤ i ∧ i ≠ c := fun i hi => by
    rcases hl with e | ⟨i', e, hi'⟩
    · have e2 := e.symm.trans hi
      exact ⟨h.own i e2, fun e3 => h.ref.own (by rw [e2, e3])⟩
    · rw [e] at hi
      injection hi with hi
      subst hi
      exact ⟨Nat.le_trans hb.size hi', by omega⟩
  have ht2 : Touch (· = c) W5 (W5.setCell ⟨c, 1, none⟩ l) := (Touch.refl (· = c) W5).setCell ⟨c, 1, none⟩ (fun _ => rfl) l
  have hh : W5.heap[c]? = _ := (hT.block c hclt (fun e => h.ref.own e)).trans h.ref.head
  have hlen := lastS_le (x := x.ab) hxs (ks[k]?.getD 0)
  rw [hn] at hlen
  have htk : (x.b.take n).length = n := by rw [List.length_take]; exact Nat.min_eq_left hlen.2
  have hfarg : ∀ A n' c', (Value.slice (some ⟨g, 0, none⟩) n cc) = .slice (some A) n' c' → A.block ≠ c := fun A n' c' e => by
    injection e with e _ _
    injection e with e
    subst e
    exact Nat.ne_of_gt (Nat.lt_of_lt_of_le hclt hg)
  have hblk : ∀ z ∈ C.L, ∃ g2 n2 c2, z.v = .slice (some ⟨g2, 0, none⟩) n2 c2 ∧ w.heap.size ≤ g2 ∧ g2 < W.heap.size := h.base
  have hkeepB : ∀ z ∈ C.L, BIs W5 z.v z.b := fun z hz => by
    obtain ⟨A, cap, e, p1, p2, p3⟩ := (h.ref.segs z hz).1
    refine ⟨A, cap, e, p1, p2, fun i b hi => ?_⟩
    obtain ⟨a, q1, q2, q3⟩ := p3 i b hi
    refine ⟨a, q1, Nat.lt_of_lt_of_le q2 hT.size, ?_⟩
    exact (World.cell?_of_block (a := a.add i) (by rw [add_block]; exact hT.block _ q2 (h.apart z hz a _ _ (by rw [e, q1])))).trans q3
  have hx0 : x.cells = [.int .i64 x.n, x.v, .int .i64 (x.s : Int)] := rfl
  have hmem : ∀ z ∈ C.L ++ [(⟨x.n, .slice (some ⟨g, 0, none⟩) n cc, x.b.take n, n⟩ : RSeg)], z ∈ C.L ∨ z = ⟨x.n, .slice (some ⟨g, 0, none⟩) n cc, x.b.take n, n⟩ := fun z hz => by
    rcases List.mem_append.1 hz with hz | hz
    · exact .inl hz
    · exact .inr (List.mem_singleton.1 hz)
  have hbT : ∀ (v : Value) (b : List UInt8), BIs W5 v b → (∀ A n c', v = .slice (some A) n c' → A.block ≠ c) → BIs (W5.setCell ⟨c, 1, none⟩ l) v b := fun v b hv hf => hv.far ht2 (fun _ => hf)
  refine ⟨⟨C.room, C.L ++ [⟨x.n, .slice (some ⟨g, 0, none⟩) n cc, x.b.take n, n⟩], l, C.fuse, C.down⟩, ⟨⟨set_at hh 1 l, ?_, ?_, fun e => (hown c e).2 rfl⟩, ?_, ?_, ?_, ?_, h.room, h.fuse, h.down, fun i hi => (hown i hi).1, ?_⟩⟩
  · have := hrow.touch ht2 (fun i hi e => (hown i hi).2 e)
    show RowIs _ 3 l (C.L ++ [_]).length ((C.L ++ [_]).flatMap RSeg.cells)
    rw [flat_snoc, List.length_append]
    exact this
  · intro z hz
    rcases hmem z hz with hz | rfl
    · exact ⟨hbT _ _ (hkeepB z hz) (h.far z hz), (h.ref.segs z hz).2⟩
    · refine ⟨hbT _ _ ?_ hfarg, by show n ≤ (x.b.take n).length; rw [htk]; exact Nat.le_refl _⟩
      exact hbis
  · intro z hz
    rcases hmem z hz with hz | rfl
    · exact h.far z hz
    · exact hfarg
  · intro z hz
    rcases hmem z hz with hz | rfl
    · obtain ⟨g2, n2, c2, e, p1, p2⟩ := h.base z hz
      exact ⟨g2, n2, c2, e, p1, by rw [setCell_sz]; exact Nat.lt_of_lt_of_le p2 hT.size⟩
    · exact ⟨g, n, cc, rfl, Nat.le_trans hb.size hg, by rw [setCell_sz]; exact hg5⟩
  · intro z hz A n' c' e hA
    have hA' : l.ownBlock = some A.block := hA
    rcases hmem z hz with hz | rfl
    · rcases hl with e2 | ⟨i, e2, hi⟩
      · exact h.apart z hz A n' c' e (by rw [← e2]; exact hA')
      · rw [e2] at hA'
        injection hA' with hA'
        obtain ⟨g2, n2, c2, e4, _, p2⟩ := hblk z hz
        rw [e4] at e
        injection e with e _ _
        injection e with e
        subst e
        exact absurd (show i = g2 from hA') (by omega)
    · injection e with e _ _
      injection e with e
      subst e
      exact hlg hA'
  · show absR (C.L ++ [_]) = _
    have e1 : absR (C.L ++ [(⟨x.n, .slice (some ⟨g, 0, none⟩) n cc, x.b.take n, n⟩ : RSeg)]) = absR C.L ++ [(x.n, x.b.take n, n)] := by unfold absR; rw [List.map_append]; rfl
    rw [e1, crI_succ ks (absR_at hx), h.abs]
    congr 1
    have h1 : lastS (x.n, x.b, x.s) (ks[k]?.getD 0) = n := hn
    rw [keptS_some (by rw [h1]; exact h0), h1]
  · exact (hb.trans (⟨hT.os, hT.tape, hT.output, hT.size, fun i hi => hT.block i (by omega) (fun e => by have := h.own i e; omega)⟩ : Below w.heap.size W W5)).setCell (p := ⟨c, 1, none⟩) hc l
theorem crIn_start {w : World} {R : RTp} (ks : List Int) {w1 : World} (h : RefAt w1 w.heap.size (newR R.room)) (hb : Below w.heap.size w w1) : CrIn w R ks w.heap.size 0 (newR R.room) w1 :=
  ⟨h, (fun x hx => by cases hx), (fun x hx => by cases hx), (fun x hx => by cases hx), rfl, rfl, rfl, rfl, (fun g hg => by cases hg), hb⟩
/-- What a crash of the reference's leaves. -/
def RCrashP (w : World) (R : RTp) (ks : List Int) (e : Ending) (w' : World) : Prop := ∃ (C : RTp), e = .returned (.pointer (some ⟨w.heap.size, 0, none⟩)) ∧ RefOk w' w.heap.size C ∧ (plR C).Eq ⟨R.room.toNat, crI (absR R.L) ks R.L.length, -1, false⟩ ∧ Below w.heap.size w w' ∧ ∀ k, RBlk w.heap.size C k → w.heap.size ≤ k
theorem CrIn.fin {w : World} {r : Nat} {R : RTp} {ks : List Int} {C : RTp} {W : World} (hR : RefOk w r R) (h : CrIn w R ks w.heap.size R.L.length C W) : RCrashP w R ks (.returned (.pointer (some ⟨w.heap.size, 0, none⟩))) W := by
  have hA : ∀ x ∈ absR R.L, x.2.2 ≤ x.2.1.length := fun x hx => by
    obtain ⟨y, hy, rfl⟩ := List.mem_map.1 hx
    exact (hR.ref.segs y hy).2
  have hl : (absR R.L).length = R.L.length := by unfold absR; rw [List.length_map]
  have hr := crI_rises hR.rises ks R.L.length (by omega)
  have h1 := crI_len (absR R.L) ks R.L.length
  have h2 := crI_size hA ks R.L.length (by omega)
  have h3 := sizeS_take (absR R.L) R.L.length
  have h4 := hR.used
  rw [absR_size] at h3
  refine ⟨C, rfl, ⟨h.ref, h.far, by rw [h.abs]; exact hr, ?_, ?_, by rw [h.room]; exact hR.room, by rw [h.fuse]; omega, fun x hx => by obtain ⟨g, n, cc, e, _, hl⟩ := h.base x hx; exact ⟨g, n, cc, e, hl⟩⟩, ⟨by unfold plR; rw [h.room], by show (absR C.L).Perm _; rw [h.abs], h.fuse, h.down⟩, h.below, fun k hk => ?_⟩
  · have : (absR C.L).length = C.L.length := by unfold absR; rw [List.length_map]
    rw [← this, h.abs]
    have := hR.few
    omega
  · rw [← absR_size, h.abs]
    omega
  · rcases hk with rfl | hk | ⟨z, hz, A, n, c, e, rfl⟩
    · exact Nat.le_refl _
    · exact h.own k hk
    · obtain ⟨g, n2, cc, e2, p1, _⟩ := h.base z hz
      rw [e2] at e
      injection e with e _ _
      injection e with e
      subst e
      exact p1
end Go.Proofs.YtnegnokielmgkaaGreatDoor

namespace Go.Proofs.YtnegnokielmgkaaGreatDoor
open Go.RowKit

theorem cr_app1 {V0 w4 : World} {E0 : Obj} {N : Nat} {d : List UInt8} (hd : d.length = N) {v4 : Value} (hrow4 : RowIs w4 1 v4 (0 + N) ([] ++ bc d)) (hg4 : (V0.alloc E0).grownBy w4 (Value.slice (some ⟨V0.heap.size, 0, none⟩) 0 0).ownBlock) (hor4 : v4.ownBlock = (Value.slice (some ⟨V0.heap.size, 0, none⟩) 0 0).ownBlock ∨ v4.ownBlock = some (V0.alloc E0).heap.size) :
    ∃ g4 c4, v4 = .slice (some ⟨g4, 0, none⟩) N c4 ∧ V0.heap.size ≤ g4 ∧ RowIs w4 1 (.slice (some ⟨g4, 0, none⟩) N c4) N (bc d) ∧ Below V0.heap.size V0 w4 := by
  rw [List.nil_append, Nat.zero_add] at hrow4
  obtain ⟨g4, eg, hg⟩ : ∃ g4, v4.ownBlock = some g4 ∧ V0.heap.size ≤ g4 := by
    rcases hor4 with e | e
    · exact ⟨V0.heap.size, e, Nat.le_refl _⟩
    · exact ⟨_, e, by rw [asz]; omega⟩
  obtain ⟨c4, rfl⟩ := row_some hrow4 eg
  exact ⟨g4, c4, rfl, hg, hrow4, (below_new E0).grown hg4 (by rw [asz]; omega) (fun k hk => by cases hk; exact Nat.le_refl _)⟩
theorem cr_app2 {w V0 w4 w5 : World} {R : RTp} {ks : List Int} {c k : Nat} {C : RTp} (h : CrIn w R ks c k C V0) (hc : w.heap.size ≤ c) {x : RSeg} (hx : R.L[k]? = some x) {N : Nat} (hn : lastS x.ab (ks[k]?.getD 0) = N) (h0 : N ≠ 0) (hxs : x.s ≤ x.b.length) (htk : (x.b.take N).length = N) {g4 c4 : Nat} (hg4 : V0.heap.size ≤ g4) (hrow4 : RowIs w4 1 (.slice (some ⟨g4, 0, none⟩) N c4) N (bc (x.b.take N))) (hb4 : Below V0.heap.size V0 w4) {SEG : Obj} {v5 : Value}
    (hrow5 : RowIs w5 3 v5 (C.L.length + 1) (C.L.flatMap RSeg.cells ++ [.int .i64 x.n, .slice (some ⟨g4, 0, none⟩) N c4, .int .i64 (N : Int)])) (hg5 : (w4.alloc SEG).grownBy w5 C.v.ownBlock) (hor5 : v5.ownBlock = C.v.ownBlock ∨ v5.ownBlock = some (w4.alloc SEG).heap.size) :
    (∃ C', CrIn w R ks c (k + 1) C' (w5.setCell ⟨c, 1, none⟩ v5)) ∧ (∃ A5 c5, v5 = .slice A5 (C.L.length + 1) c5) ∧ ∀ i, i < V0.heap.size → C.v.ownBlock ≠ some i → w5.heap[i]? = V0.heap[i]? := by
  have hCl : ∀ i, C.v.ownBlock = some i → i < V0.heap.size := fun i hi => h.ref.row.lt i hi
  have hg4l : g4 < w4.heap.size := hrow4.lt g4 rfl
  have hne : C.v.ownBlock ≠ some g4 := fun e => by have := hCl g4 e; omega
  have hs5 := hg5.size
  rw [asz] at hs5
  have hkeep : ∀ i, i < V0.heap.size → C.v.ownBlock ≠ some i → w5.heap[i]? = V0.heap[i]? := fun i hi hne => by
    have h4 := hb4.size
    exact ((hg5.block i (by rw [asz]; omega) (fun e => hne e.symm)).trans (Below.heap_alloc w4 SEG i (by omega))).trans (hb4.block i hi)
  have hT : Touch (fun i => C.v.ownBlock = some i) V0 w5 := ⟨hg5.os.trans hb4.os, hg5.tape.trans hb4.tape, hg5.output.trans hb4.output, by have := hb4.size; omega, fun i hi hn => hkeep i hi hn⟩
  have hrowb : RowIs w5 1 (.slice (some ⟨g4, 0, none⟩) N c4) N (bc (x.b.take N)) := (hrow4.below (below_new SEG)).keep (by rw [asz]; omega) (fun i hi => hg5.block i (by cases hi; rw [asz]; exact Nat.lt_succ_of_lt hg4l) (fun e => by cases hi; exact hne e.symm))
  have hbis : BIs w5 (.slice (some ⟨g4, 0, none⟩) N c4) (x.b.take N) := row_bis (by rw [htk]; exact hrowb)
  obtain ⟨A5, c5, e5, _⟩ := hrow5.form
  refine ⟨h.add hc hx hn h0 hxs hT hbis hg4 hrow5 ?_ ?_ (by omega), ⟨A5, c5, e5⟩, hkeep⟩
  · rcases hor5 with e | e
    · exact .inl e
    · exact .inr ⟨_, e, by rw [asz]; have := hb4.size; omega⟩
  · intro e
    rcases hor5 with e2 | e2
    · exact hne (by rw [← e2]; exact e)
    · rw [e2, asz] at e
      injection e with e
      omega

set_option maxRecDepth 100000 in
set_option maxHeartbeats 4000000 in
theorem rcrash_any {w : World} {r : Nat} {R : RTp} (hR : RefOk w r R) {kv : Value} {ks : List Int} (hks : IIs w kv ks) (hrng : ∀ k ∈ ks, -9223372036854775808 ≤ k ∧ k ≤ 9223372036854775807) : Calls Tryz.prog 47 #[.pointer (some ⟨r, 0, none⟩), kv] w (RCrashP w R ks) := by
  obtain ⟨A, cap, ev, hc2, hc1, HC⟩ := hR.cells
  obtain ⟨mr, emr, hmr⟩ := hR.room
  have c0 : w.cell? ⟨r, 0, none⟩ = some (.int .i64 (mr : Int)) := by rw [cell_of hR.ref.head 0, ← emr]; rfl
  have HNEW := Lib.hid (rnew_any (w := w) (mr : Int))
  rw [← emr] at HNEW
  obtain ⟨Ak, ck, rfl, hk1, hk2, hk3⟩ := hks
  have HK3 := Lib.hid (fun (i : Nat) (x : Int) (h : ks[i]? = some x) (W : World) (hW : Below w.heap.size w W) => (by
    obtain ⟨a, q1, q2, q3⟩ := hk3 i x h
    exact ⟨a, q1, (hW.cell (p := a.add i) (by rw [add_block]; exact q2)).trans q3⟩ : ∃ a : Addr, Ak = some a ∧ W.cell? (a.add i) = some (.int .i64 x)))
  have HSEG := Lib.hid (fun (i : Nat) (x : RSeg) (hx : R.L[i]? = some x) (W : World) (hW : Below w.heap.size w W) => (by
    obtain ⟨g, e, hg, k0, k1, k2⟩ := hR.ref.seg3 ev hx
    exact ⟨g, e, (hW.cell (p := ⟨g, i * 3, none⟩) hg).trans k0, (hW.cell (p := ⟨g, i * 3 + 1, none⟩) hg).trans k1, (hW.cell (p := ⟨g, i * 3 + 2, none⟩) hg).trans k2⟩ : ∃ g, A = some ⟨g, 0, none⟩ ∧ W.cell? ⟨g, i * 3, none⟩ = some (.int .i64 x.n) ∧ W.cell? ⟨g, i * 3 + 1, none⟩ = some x.v ∧ W.cell? ⟨g, i * 3 + 2, none⟩ = some (.int .i64 (x.s : Int))))
  have H := Lib.hid hR
  have HRN := Lib.hid hrng
  have HCH := Lib.hid HC
  unfold maxLen at hk2
  have hcm : (R.room : Int) = (mr : Int) := emr
  have EMR := Lib.hid emr
  clear hR hk3 hrng HC ev emr hcm
  go_enter Tryz.func47, Tryz.ntmps47
  go_wp2_with fail
  rw [EMR.out] at HNEW
  refine (HNEW.out).mono ?_
  rintro e w1 ⟨rfl, hn1, hb1⟩
  rw [← EMR.out] at hn1
  have HST := Lib.hid (crIn_start (R := R) ks hn1 hb1)
  have kc := (HCH.out _ hb1).1
  clear hn1 hb1
  go_wp2_with fail
  go_loopw [19] (fun i wr => ∃ (k : Nat) (C : RTp), k ≤ R.L.length ∧ i = .int .i64 k ∧ CrIn w R ks w.heap.size k C wr) (fun i _ => R.L.length - (intOf i).toNat)
  case atStart => exact ⟨0, _, by omega, rfl, HST.out⟩
  case round =>
    obtain ⟨k, C, hk, rfl, hinv⟩ := hrel
    have HV := Lib.hid hinv
    clear hinv HST kc
    by_cases hlt : k < R.L.length
    · have hxk : R.L[k]? = some R.L[k] := List.getElem?_eq_getElem hlt
      obtain ⟨g, rfl, k0, k1, k2⟩ := HSEG.out k _ hxk wr HV.out.below
      obtain ⟨gx, nx, cx, ex, _⟩ := H.out.base _ (List.getElem_mem hlt)
      have HBX := Lib.hid ((H.out.ref.segs _ (List.getElem_mem hlt)).1.below HV.out.below)
      have HXS := Lib.hid (H.out.ref.segs _ (List.getElem_mem hlt)).2
      have HX := Lib.hid hxk
      generalize R.L[k] = x at *
      obtain ⟨A3, c3, e3, hx1, hx2, _⟩ := HBX.out
      rw [ex] at e3
      injection e3 with e3 e4 e5
      subst e4
      subst e5
      rw [ex] at k1
      have EX := Lib.hid ex
      have ha : (⟨g, 0, none⟩ : Addr).add (k * 3) = ⟨g, k * 3, none⟩ := add0 _ _
      have hxs : x.s ≤ x.b.length := HXS.out
      have HLX : Hid (x.b.length ≤ 1048576) := by have := (H.out.hitLen HX.out).2; have := H.out.used; show _ ≤ _; omega
      have hlx := HLX.out
      unfold maxLen at hx2
      replace hlt : (k : Int) < (R.L.length : Int) := by omega
      clear hxk ex e3
      go_upto_region 6 with fail
      go_cut [34] (fun b wx => b = .bool (decide (0 < ks[k]?.getD 0)) ∧ wr.alloc (.cells #[.int .i64 x.n, .slice (some ⟨gx, 0, none⟩) x.b.length cx, .int .i64 (x.s : Int)] 108) = wx)
      case first =>
        by_cases hkl : k < ks.length
        · have hkk : ks[k]? = some ks[k] := List.getElem?_eq_getElem hkl
          obtain ⟨ak, rfl, hck⟩ := HK3.out k _ hkk wr HV.out.below
          obtain ⟨ak2, e2, hck2⟩ := HK3.out k _ hkk (wr.alloc (.cells #[.int .i64 x.n, .slice (some ⟨gx, 0, none⟩) x.b.length cx, .int .i64 (x.s : Int)] 108)) (HV.out.below.trans ((below_new _).mono HV.out.below.size))
          injection e2 with e2
          subst e2
          have EK : Hid (ks[k]?.getD 0 = ks[k]) := by show _ = _; rw [hkk]; rfl
          have hrk := HRN.out _ (List.getElem_mem hkl)
          generalize ks[k] = kj at *
          replace hkl : (k : Int) < (ks.length : Int) := by omega
          clear hkk
          by_cases hpos : 0 < kj
          · go_wp2_with fail
            go_meet
            exact ⟨by rw [EK.out, decide_eq_true hpos], rfl⟩
          · go_wp2_with fail
            go_meet
            exact ⟨by rw [EK.out, decide_eq_false (show ¬ 0 < kj by omega)], rfl⟩
        · have EK : Hid (ks[k]?.getD 0 = 0) := by show _ = _; rw [List.getElem?_eq_none (by omega)]; rfl
          replace hkl : ¬ (k : Int) < (ks.length : Int) := by omega
          go_wp2_with fail
          go_meet
          exact ⟨by rw [EK.out]; rfl, rfl⟩
      case rest =>
        obtain ⟨rfl, rfl⟩ := hcut
        have hB1 : Below w.heap.size w (wr.alloc (.cells #[.int .i64 x.n, .slice (some ⟨gx, 0, none⟩) x.b.length cx, .int .i64 (x.s : Int)] 108)) := HV.out.below.trans ((below_new _).mono HV.out.below.size)
        go_upto_if 34 with fail
        go_cut [8] (fun n wx => n = .int .i64 (((ks[k]?.getD 0).toNat : Nat) : Int) ∧ wr.alloc (.cells #[.int .i64 x.n, .slice (some ⟨gx, 0, none⟩) x.b.length cx, .int .i64 (x.s : Int)] 108) = wx)
        case first =>
          by_cases hpos : 0 < ks[k]?.getD 0
          · have hkl : k < ks.length := by
              rcases Nat.lt_or_ge k ks.length with h | h
              · exact h
              · rw [List.getElem?_eq_none h] at hpos; exact absurd hpos (by decide)
            have hkk : ks[k]? = some ks[k] := List.getElem?_eq_getElem hkl
            obtain ⟨ak, rfl, hck2⟩ := HK3.out k _ hkk _ hB1
            have EK : Hid (ks[k]?.getD 0 = ks[k]) := by show _ = _; rw [hkk]; rfl
            have EK2 : Hid (((ks[k].toNat : Nat) : Int) = ks[k]) := by show _ = _; rw [EK.out] at hpos; omega
            rw [EK.out] at hpos ⊢
            generalize ks[k] = kj at *
            replace hkl : (k : Int) < (ks.length : Int) := by omega
            clear hkk hB1
            go_wp2_with fail
            go_meet
            exact ⟨by rw [EK.out, EK2.out], rfl⟩
          · have EK2 : Hid ((((ks[k]?.getD 0).toNat : Nat) : Int) = 0) := by show _ = _; omega
            clear hB1
            go_wp2_with fail
            go_meet
            exact ⟨by rw [EK2.out], rfl⟩
        case rest =>
          obtain ⟨rfl, rfl⟩ := hcut
          have HLS : Hid (lastS x.ab (ks[k]?.getD 0) = x.s + min (ks[k]?.getD 0).toNat (x.b.length - x.s)) := rfl
          have hkj : (ks[k]?.getD 0).toNat ≤ 9223372036854775807 := by
            cases hkk : ks[k]? with
            | none => simp
            | some v => have := HRN.out v (List.mem_of_getElem? hkk); simp; omega
          generalize (ks[k]?.getD 0).toNat = kn at *
          generalize hLN : lastS x.ab (ks[k]?.getD 0) = N at *
          have HLN := Lib.hid hLN
          have q1 : IntKind.i64.wrap ((x.b.length : Int) - (x.s : Int)) = (x.b.length : Int) - (x.s : Int) := IntWalk.i64_in _ (by omega)
          clear hLN hB1
          go_upto_if 46 with fail
          go_cut [8] (fun n wx => n = .int .i64 ((min kn (x.b.length - x.s) : Nat) : Int) ∧ wr.alloc (.cells #[.int .i64 x.n, .slice (some ⟨gx, 0, none⟩) x.b.length cx, .int .i64 (x.s : Int)] 108) = wx)
          case first =>
            by_cases hgt : (x.b.length : Int) - (x.s : Int) < (kn : Int)
            · have EM : Hid (((min kn (x.b.length - x.s) : Nat) : Int) = (x.b.length : Int) - (x.s : Int)) := by show _ = _; omega
              go_wp2_with fail
              go_meet
              exact ⟨by rw [EM.out], rfl⟩
            · have EM : Hid (((min kn (x.b.length - x.s) : Nat) : Int) = (kn : Int)) := by show _ = _; omega
              go_wp2_with fail
              go_meet
              exact ⟨by rw [EM.out], rfl⟩
          case rest =>
            obtain ⟨rfl, rfl⟩ := hcut
            have hN1 : Hid (((min kn (x.b.length - x.s) : Nat) : Int) + (x.s : Int) = (N : Int)) := by show _ = _; rw [HLS.out]; omega
            have hN2 : N ≤ x.b.length := by rw [HLS.out]; omega
            have hmm : (min kn (x.b.length - x.s) : Nat) ≤ x.b.length - x.s := Nat.min_le_right _ _
            generalize min kn (x.b.length - x.s) = mm at *
            have hs1 : (mm : Int) + (x.s : Int) ≤ 1048576 := by omega
            clear q1
            go_upto_region 10 with fail
            go_cut [8] (fun n wx => n = .int .i64 (N : Int) ∧ wr.alloc (.cells #[.int .i64 x.n, .slice (some ⟨gx, 0, none⟩) x.b.length cx, .int .i64 (x.s : Int)] 108) = wx)
            case first =>
              go_wp2_with fail
              go_meet
              exact ⟨by rw [hN1.out], rfl⟩
            case rest =>
            obtain ⟨rfl, rfl⟩ := hcut
            clear hmm hs1
            by_cases hN0 : N = 0
            · have HSK := Lib.hid ((HV.out.skip HX.out (HLN.out.trans hN0)).keep (below_new (.cells #[.int .i64 x.n, .slice (some ⟨gx, 0, none⟩) x.b.length cx, .int .i64 (x.s : Int)] 108)))
              have hN0' : ¬ (0 : Int) < (N : Int) := by omega
              clear hN0
              go_wp2_with fail
              go_roundw
              case rel => exact ⟨k + 1, C, by omega, by go_num, HSK.out⟩
              case measure => simp [intOf]; omega
            · have hN0' : (0 : Int) < (N : Int) := by omega
              have HN0 := Lib.hid hN0
              clear hN0
              go_wp2_with fail
              have hC0 := HV.out.keep (below_drew (below_new (w := wr) (.cells #[.int .i64 x.n, .slice (some ⟨gx, 0, none⟩) x.b.length cx, .int .i64 (x.s : Int)] 108)))
              have hbx := alloc_at wr (.cells #[.int .i64 x.n, .slice (some ⟨gx, 0, none⟩) x.b.length cx, .int .i64 (x.s : Int)] 108)
              have d0 : ((wr.alloc (.cells #[.int .i64 x.n, .slice (some ⟨gx, 0, none⟩) x.b.length cx, .int .i64 (x.s : Int)] 108)).drew).cell? ⟨wr.heap.size, 0, none⟩ = some (.int .i64 x.n) := cell_of (W := (wr.alloc (.cells #[.int .i64 x.n, .slice (some ⟨gx, 0, none⟩) x.b.length cx, .int .i64 (x.s : Int)] 108)).drew) hbx 0
              have d1 : ((wr.alloc (.cells #[.int .i64 x.n, .slice (some ⟨gx, 0, none⟩) x.b.length cx, .int .i64 (x.s : Int)] 108)).drew).cell? ⟨wr.heap.size, 1, none⟩ = some (.slice (some ⟨gx, 0, none⟩) x.b.length cx) := cell_of (W := (wr.alloc (.cells #[.int .i64 x.n, .slice (some ⟨gx, 0, none⟩) x.b.length cx, .int .i64 (x.s : Int)] 108)).drew) hbx 1
              have hsz0 : wr.heap.size < ((wr.alloc (.cells #[.int .i64 x.n, .slice (some ⟨gx, 0, none⟩) x.b.length cx, .int .i64 (x.s : Int)] 108)).drew).heap.size := by show _ < (wr.alloc (.cells #[.int .i64 x.n, .slice (some ⟨gx, 0, none⟩) x.b.length cx, .int .i64 (x.s : Int)] 108)).heap.size; rw [asz]; omega
              have HCN : Hid (C.v.ownBlock ≠ some wr.heap.size) := fun e => by have := HV.out.ref.row.lt _ e; omega
              have HWC : Hid (w.heap.size ≠ wr.heap.size) := by have := heap_lt HV.out.ref.head; show _ ≠ _; omega
              have HTK : Hid ((x.b.take N).length = N) := by show _ = _; rw [List.length_take]; omega
              have HNL : Hid (N ≤ 1048576) := by show _ ≤ _; omega
              have HCL : Hid (C.L.length ≤ 1000) := by
                have h1 := crI_len (absR R.L) ks k
                rw [← HV.out.abs] at h1
                unfold absR at h1
                rw [List.length_map] at h1
                have := H.out.few
                show _ ≤ _
                omega
              have hbt : BIs ((wr.alloc (.cells #[.int .i64 x.n, .slice (some ⟨gx, 0, none⟩) x.b.length cx, .int .i64 (x.s : Int)] 108)).drew) (.slice (some ⟨gx, 0, none⟩) N cx) (x.b.take N) := by
                have hb := HBX.out.below (below_drew (below_new (w := wr) (.cells #[.int .i64 x.n, .slice (some ⟨gx, 0, none⟩) x.b.length cx, .int .i64 (x.s : Int)] 108)))
                obtain ⟨A2, cc2, e2, p1, p2, p3⟩ := hb
                rw [EX.out] at e2
                injection e2 with e2 _ e3
                subst e2
                subst e3
                refine ⟨_, cx, by rw [HTK.out], by rw [HTK.out]; omega, p2, fun i u hi => ?_⟩
                rw [List.getElem?_take] at hi
                split at hi
                · exact p3 i u hi
                · cases hi
              clear hbx
              refine wp_region_held_drew (S := (fun W => W.cell? ⟨wr.heap.size, 0, none⟩ = some (.int .i64 x.n) ∧ W.cell? ⟨wr.heap.size, 1, none⟩ = some (.slice (some ⟨gx, 0, none⟩) x.b.length cx))) (by kernel_rfl) ⟨d0, d1⟩ (fun hHeld => ?_)
              generalize (wr.alloc (.cells #[.int .i64 x.n, .slice (some ⟨gx, 0, none⟩) x.b.length cx, .int .i64 (x.s : Int)] 108)).drew = V0 at *
              have b0 := d0
              have b1 := d1
              have HC0 := Lib.hid hC0
              have HCX : Hid (w.heap.size < V0.heap.size) := heap_lt hC0.ref.head
              have HBX : Hid (wr.heap.size < V0.heap.size) := hsz0
              obtain ⟨AC, cC, eCV, hC1, hC2, _⟩ := hC0.ref.row.form
              have cL0 := cell_of hC0.ref.head 1
              replace cL0 : V0.cell? ⟨w.heap.size, 1, none⟩ = some (.slice AC C.L.length cC) := by rw [cL0, ← eCV]; rfl
              have ECV := Lib.hid eCV
              have s1a := cell_old b0 HBX.out (.cells #[] 5)
              have s1b := cell_old b1 HBX.out (.cells #[] 5)
              have cL1 := cell_old cL0 HCX.out (.cells #[] 5)
              have HROW := Lib.hid (row_empty V0 5)
              have hsrc := ((hbt.below (below_new (.cells #[] 5)))).src
              rw [HTK.out] at hsrc
              have HSRC := Lib.hid hsrc
              have hNc : (N : Int) ≤ (cx : Int) := by omega
              have hNcn : N ≤ cx := by omega
              clear hC0 d0 d1 eCV hbt hsz0 hsrc
              refine wpAnyH_take (i := 0) (v := ?_) rfl (by kernel_rfl) (by kernel_rfl) (by kernel_rfl) (fun _ _ _ h => h) (Or.inl ⟨by rfl, ?_⟩) (by assumption) ?_
              rotate_left 1
              · (intro wq hSw; (try dsimp only at hSw); go_simp; try with_reducible rfl)
              (try dsimp only)
              (try simp only [List.getElem_toArray, List.getElem_cons_succ, List.getElem_cons_zero, Act.put, List.setIfInBounds_toArray, List.set_cons_zero, List.set_cons_succ])
              refine wpAnyH_take (i := 1) (v := ?_) rfl (by kernel_rfl) (by kernel_rfl) (by kernel_rfl) (fun _ _ _ h => h) (Or.inl ⟨by rfl, ?_⟩) (by assumption) ?_
              rotate_left 1
              · (intro wq hSw; (try dsimp only at hSw); go_simp; try with_reducible rfl)
              (try dsimp only)
              (try simp only [List.getElem_toArray, List.getElem_cons_succ, List.getElem_cons_zero, Act.put, List.setIfInBounds_toArray, List.set_cons_zero, List.set_cons_succ])
              refine wpAnyH_take (i := 2) (v := ?_) rfl (by kernel_rfl) (by kernel_rfl) (by kernel_rfl) (fun _ _ _ h => h) (Or.inl ⟨by rfl, ?_⟩) (by assumption) ?_
              rotate_left 1
              · (intro wq hSw; (try dsimp only at hSw); go_simp; try with_reducible rfl)
              (try dsimp only)
              (try simp only [List.getElem_toArray, List.getElem_cons_succ, List.getElem_cons_zero, Act.put, List.setIfInBounds_toArray, List.set_cons_zero, List.set_cons_succ])
              refine wpAnyH_take (i := 3) (v := ?_) rfl (by kernel_rfl) (by kernel_rfl) (by kernel_rfl) (fun _ _ _ h => h) (Or.inl ⟨by rfl, ?_⟩) (by assumption) ?_
              rotate_left 1
              · (intro wq hSw; (try dsimp only at hSw); go_simp; try with_reducible rfl)
              (try dsimp only)
              (try simp only [List.getElem_toArray, List.getElem_cons_succ, List.getElem_cons_zero, Act.put, List.setIfInBounds_toArray, List.set_cons_zero, List.set_cons_succ])
              refine wpAnyH_take (i := 5) (v := ?_) rfl (by kernel_rfl) (by kernel_rfl) (by kernel_rfl) (fun _ _ _ h => h) (Or.inl ⟨by rfl, ?_⟩) (by assumption) ?_
              rotate_left 1
              · (intro wq hSw; (try dsimp only at hSw); go_simp; try with_reducible rfl)
              (try dsimp only)
              (try simp only [List.getElem_toArray, List.getElem_cons_succ, List.getElem_cons_zero, Act.put, List.setIfInBounds_toArray, List.set_cons_zero, List.set_cons_succ])
              refine wpAnyH_take (i := 6) (v := ?_) rfl (by kernel_rfl) (by kernel_rfl) (by kernel_rfl) (fun _ _ _ h => h) (Or.inl ⟨by rfl, ?_⟩) (by assumption) ?_
              rotate_left 1
              · (intro wq hSw; (try dsimp only at hSw); go_simp; try with_reducible rfl)
              (try dsimp only)
              (try simp only [List.getElem_toArray, List.getElem_cons_succ, List.getElem_cons_zero, Act.put, List.setIfInBounds_toArray, List.set_cons_zero, List.set_cons_succ])
              refine wpAnyH_take (i := 8) (v := ?_) rfl (by kernel_rfl) (by kernel_rfl) (by kernel_rfl) (fun _ _ _ h => h) (Or.inl ⟨by rfl, ?_⟩) (by assumption) ?_
              rotate_left 1
              · (intro wq hSw; (try dsimp only at hSw); go_simp; try with_reducible rfl)
              (try dsimp only)
              (try simp only [List.getElem_toArray, List.getElem_cons_succ, List.getElem_cons_zero, Act.put, List.setIfInBounds_toArray, List.set_cons_zero, List.set_cons_succ])
              refine wpAnyH_take (i := 9) (v := ?_) rfl (by kernel_rfl) (by kernel_rfl) (by kernel_rfl) (fun _ _ _ h => h) (Or.inl ⟨by rfl, ?_⟩) (by assumption) ?_
              rotate_left 1
              · (intro wq hSw; (try dsimp only at hSw); go_simp; try with_reducible rfl)
              (try dsimp only)
              (try simp only [List.getElem_toArray, List.getElem_cons_succ, List.getElem_cons_zero, Act.put, List.setIfInBounds_toArray, List.set_cons_zero, List.set_cons_succ])
              refine wpAnyH_take (i := 10) (v := ?_) rfl (by kernel_rfl) (by kernel_rfl) (by kernel_rfl) (fun _ _ _ h => h) (Or.inl ⟨by rfl, ?_⟩) (by assumption) ?_
              rotate_left 1
              · (intro wq hSw; (try dsimp only at hSw); go_simp; try with_reducible rfl)
              (try dsimp only)
              (try simp only [List.getElem_toArray, List.getElem_cons_succ, List.getElem_cons_zero, Act.put, List.setIfInBounds_toArray, List.set_cons_zero, List.set_cons_succ])
              refine wpAnyH_take (i := 11) (v := ?_) rfl (by kernel_rfl) (by kernel_rfl) (by kernel_rfl) (fun _ _ _ h => h) (Or.inl ⟨by rfl, ?_⟩) (by assumption) ?_
              rotate_left 1
              · (intro wq hSw; (try dsimp only at hSw); go_simp; try with_reducible rfl)
              (try dsimp only)
              (try simp only [List.getElem_toArray, List.getElem_cons_succ, List.getElem_cons_zero, Act.put, List.setIfInBounds_toArray, List.set_cons_zero, List.set_cons_succ])
              refine wpAnyH_take (i := 13) (v := ?_) rfl (by kernel_rfl) (by kernel_rfl) (by kernel_rfl) (fun _ _ _ h => h) (Or.inl ⟨by rfl, ?_⟩) (by assumption) ?_
              rotate_left 1
              · (intro wq hSw; (try dsimp only at hSw); go_simp; try with_reducible rfl)
              (try dsimp only)
              (try simp only [List.getElem_toArray, List.getElem_cons_succ, List.getElem_cons_zero, Act.put, List.setIfInBounds_toArray, List.set_cons_zero, List.set_cons_succ])
              refine wpAnyH_ready (rs := [4, 7]) (by kernel_rfl) (by simp) ?_
              refine AllReadyH.cons rfl (fun K hK => ?_) (AllReadyH.cons rfl (fun K hK => ?_) AllReadyH.nil)
              · go_simp
                refine hK.out _ _ (by first | assumption | exact ⟨by assumption, by assumption⟩) (fun hHeld => ?_)
                clear hK K
                (try dsimp only)
                (try simp only [List.getElem_toArray, List.getElem_cons_succ, List.getElem_cons_zero, Act.put, List.setIfInBounds_toArray, List.set_cons_zero, List.set_cons_succ])
                refine wpAnyH_ready (rs := [7]) (by kernel_rfl) (by simp) ?_
                refine AllReadyH.cons rfl (fun K hK => ?_) AllReadyH.nil
                go_simp
                refine hK.out _ _ (by first | assumption | exact ⟨by assumption, by assumption⟩) (fun hHeld => ?_)
                clear hK K
                (try dsimp only)
                (try simp only [List.getElem_toArray, List.getElem_cons_succ, List.getElem_cons_zero, Act.put, List.setIfInBounds_toArray, List.set_cons_zero, List.set_cons_succ])
                refine wpAnyH_ready (rs := [12]) (by kernel_rfl) (by simp) ?_
                refine AllReadyH.cons rfl (fun K hK => ?_) AllReadyH.nil
                refine step_append_row 32 5 Tryz.underlying32 rinfo5 rfl (by decide) (by decide) rfl _ _ 32 rfl 0 N [] (bc (x.b.take N)) _ _ rfl rfl HROW.out HSRC.out (by have := HNL.out; omega) ?_
                intro v4 w4 hrow4 hg4 hor4
                obtain ⟨g4, c4, rfl, hg4l, hrow4', hb4⟩ := cr_app1 HTK.out hrow4 hg4 hor4
                have hs4 := hb4.size
                have s2a := (hb4.cell (p := ⟨wr.heap.size, 0, none⟩) HBX.out).trans b0
                have s2b := (hb4.cell (p := ⟨wr.heap.size, 1, none⟩) HBX.out).trans b1
                have cL2 := (hb4.cell (p := ⟨w.heap.size, 1, none⟩) HCX.out).trans cL0
                have SEG4 : Obj := (.cells #[.int .i64 x.n, .slice (some ⟨g4, 0, none⟩) N c4, .int .i64 (N : Int)] 108)
                have s3a := cell_old s2a (Nat.lt_of_lt_of_le HBX.out hs4) (.cells #[.int .i64 x.n, .slice (some ⟨g4, 0, none⟩) N c4, .int .i64 (N : Int)] 108)
                have s3b := cell_old s2b (Nat.lt_of_lt_of_le HBX.out hs4) (.cells #[.int .i64 x.n, .slice (some ⟨g4, 0, none⟩) N c4, .int .i64 (N : Int)] 108)
                have cL3 := cell_old cL2 (Nat.lt_of_lt_of_le HCX.out hs4) (.cells #[.int .i64 x.n, .slice (some ⟨g4, 0, none⟩) N c4, .int .i64 (N : Int)] 108)
                have HROW5 := Lib.hid ((HC0.out.ref.below hb4).row.below (below_new (.cells #[.int .i64 x.n, .slice (some ⟨g4, 0, none⟩) N c4, .int .i64 (N : Int)] 108)))
                rw [ECV.out] at HROW5
                have HSRC5 := Lib.hid (src_seg (W := w4) x.n (N : Int) (some ⟨g4, 0, none⟩) N c4)
                have HROW4 := Lib.hid hrow4'
                have HB4 := Lib.hid hb4
                have HG4 : Hid (V0.heap.size ≤ g4) := hg4l
                clear hrow4 hg4 hor4 hrow4' hb4 hg4l hs4 SEG4
                refine hK.out _ _ (by first | assumption | exact ⟨by assumption, by assumption⟩) (fun hHeld => ?_)
                clear hK K
                (try dsimp only)
                (try simp only [List.getElem_toArray, List.getElem_cons_succ, List.getElem_cons_zero, Act.put, List.setIfInBounds_toArray, List.set_cons_zero, List.set_cons_succ])
                refine wpAnyH_take (i := 14) (v := ?_) rfl (by kernel_rfl) (by kernel_rfl) (by kernel_rfl) (fun _ _ _ h => h) (Or.inl ⟨by rfl, ?_⟩) (by assumption) ?_
                rotate_left 1
                · (intro wq hSw; (try dsimp only at hSw); go_simp; try with_reducible rfl)
                (try dsimp only)
                (try simp only [List.getElem_toArray, List.getElem_cons_succ, List.getElem_cons_zero, Act.put, List.setIfInBounds_toArray, List.set_cons_zero, List.set_cons_succ])
                refine wpAnyH_ready (rs := [15]) (by kernel_rfl) (by simp) ?_
                refine AllReadyH.cons rfl (fun K hK => ?_) AllReadyH.nil
                go_simp
                refine hK.out _ _ (by first | assumption | exact ⟨by assumption, by assumption⟩) (fun hHeld => ?_)
                clear hK K
                (try dsimp only)
                (try simp only [List.getElem_toArray, List.getElem_cons_succ, List.getElem_cons_zero, Act.put, List.setIfInBounds_toArray, List.set_cons_zero, List.set_cons_succ])
                refine wpAnyH_ready (rs := [16]) (by kernel_rfl) (by simp) ?_
                refine AllReadyH.cons rfl (fun K hK => ?_) AllReadyH.nil
                refine step_append_row 79 108 Tryz.underlying79 infoSeg rfl (by decide) (by decide) rfl _ _ 79 rfl C.L.length 1 (C.L.flatMap RSeg.cells) [.int .i64 x.n, .slice (some ⟨g4, 0, none⟩) N c4, .int .i64 (N : Int)] _ _ rfl rfl HROW5.out HSRC5.out (by have := HCL.out; omega) ?_
                intro v5 w5 hrow5 hg5 hor5
                rw [← ECV.out] at hg5 hor5
                obtain ⟨hfin, ⟨A5, c5, rfl⟩, hk5⟩ := cr_app2 HC0.out (Nat.le_refl _) HX.out HLN.out HN0.out HXS.out HTK.out HG4.out HROW4.out HB4.out hrow5 hg5 hor5
                have HFIN := Lib.hid hfin
                have s4a := (World.cell?_of_block (a := ⟨wr.heap.size, 0, none⟩) (hk5 wr.heap.size HBX.out HCN.out)).trans b0
                have s4b := (World.cell?_of_block (a := ⟨wr.heap.size, 1, none⟩) (hk5 wr.heap.size HBX.out HCN.out)).trans b1
                have hh5 := (hk5 w.heap.size HCX.out (fun e => HC0.out.ref.own e)).trans HC0.out.ref.head
                have cL5 := cell_of hh5 1
                have f5 := free0 hh5 1
                simp at cL5
                have s5a : ((w5.setCell ⟨w.heap.size, 1, none⟩ (.slice A5 (C.L.length + 1) c5)).cell? ⟨wr.heap.size, 0, none⟩) = some (.int .i64 x.n) := (World.cell?_of_block (a := ⟨wr.heap.size, 0, none⟩) (Below.heap_setCell _ _ _ _ HWC.out.symm)).trans s4a
                have s5b : ((w5.setCell ⟨w.heap.size, 1, none⟩ (.slice A5 (C.L.length + 1) c5)).cell? ⟨wr.heap.size, 1, none⟩) = some (.slice (some ⟨gx, 0, none⟩) x.b.length cx) := (World.cell?_of_block (a := ⟨wr.heap.size, 1, none⟩) (Below.heap_setCell _ _ _ _ HWC.out.symm)).trans s4b
                clear hrow5 hg5 hor5 hfin hk5 hh5
                refine hK.out _ _ (by first | assumption | exact ⟨by assumption, by assumption⟩) (fun hHeld => ?_)
                clear hK K
                (try dsimp only)
                (try simp only [List.getElem_toArray, List.getElem_cons_succ, List.getElem_cons_zero, Act.put, List.setIfInBounds_toArray, List.set_cons_zero, List.set_cons_succ])
                refine wpAnyH_take (i := 17) (v := ?_) rfl (by kernel_rfl) (by kernel_rfl) (by kernel_rfl) (fun _ _ _ h => h) (Or.inl ⟨by rfl, ?_⟩) (by assumption) ?_
                rotate_left 1
                · (intro wq hSw; (try dsimp only at hSw); go_simp; try with_reducible rfl)
                (try dsimp only)
                (try simp only [List.getElem_toArray, List.getElem_cons_succ, List.getElem_cons_zero, Act.put, List.setIfInBounds_toArray, List.set_cons_zero, List.set_cons_succ])
                refine wpAnyH_take (i := 18) (v := ?_) rfl (by kernel_rfl) (by kernel_rfl) (by kernel_rfl) (fun _ _ _ h => h) (Or.inl ⟨by rfl, ?_⟩) (by assumption) ?_
                rotate_left 1
                · (intro wq hSw; (try dsimp only at hSw); go_simp; try with_reducible rfl)
                (try dsimp only)
                (try simp only [List.getElem_toArray, List.getElem_cons_succ, List.getElem_cons_zero, Act.put, List.setIfInBounds_toArray, List.set_cons_zero, List.set_cons_succ])
                refine wpAnyH_ready (rs := [19]) (by kernel_rfl) (by simp) ?_
                refine AllReadyH.cons rfl (fun K hK => ?_) AllReadyH.nil
                go_simp
                refine hK.out _ _ (by first | assumption | exact ⟨by assumption, by assumption⟩) (fun hHeld => ?_)
                clear hK K
                (try dsimp only)
                (try simp only [List.getElem_toArray, List.getElem_cons_succ, List.getElem_cons_zero, Act.put, List.setIfInBounds_toArray, List.set_cons_zero, List.set_cons_succ])
                refine wpAnyH_done (by kernel_rfl) ?_ _
                go_wp2_with fail
                go_roundw
                case rel =>
                  obtain ⟨C2, hC2⟩ := HFIN.out
                  exact ⟨k + 1, C2, by omega, by go_num, hC2⟩
                case measure => simp [intOf]; omega
              · go_simp
                refine hK.out _ _ (by first | assumption | exact ⟨by assumption, by assumption⟩) (fun hHeld => ?_)
                clear hK K
                (try dsimp only)
                (try simp only [List.getElem_toArray, List.getElem_cons_succ, List.getElem_cons_zero, Act.put, List.setIfInBounds_toArray, List.set_cons_zero, List.set_cons_succ])
                refine wpAnyH_ready (rs := [4, 12]) (by kernel_rfl) (by simp) ?_
                refine AllReadyH.cons rfl (fun K hK => ?_) (AllReadyH.cons rfl (fun K hK => ?_) AllReadyH.nil)
                · go_simp
                  refine hK.out _ _ (by first | assumption | exact ⟨by assumption, by assumption⟩) (fun hHeld => ?_)
                  clear hK K
                  (try dsimp only)
                  (try simp only [List.getElem_toArray, List.getElem_cons_succ, List.getElem_cons_zero, Act.put, List.setIfInBounds_toArray, List.set_cons_zero, List.set_cons_succ])
                  refine wpAnyH_ready (rs := [12]) (by kernel_rfl) (by simp) ?_
                  refine AllReadyH.cons rfl (fun K hK => ?_) AllReadyH.nil
                  refine step_append_row 32 5 Tryz.underlying32 rinfo5 rfl (by decide) (by decide) rfl _ _ 32 rfl 0 N [] (bc (x.b.take N)) _ _ rfl rfl HROW.out HSRC.out (by have := HNL.out; omega) ?_
                  intro v4 w4 hrow4 hg4 hor4
                  obtain ⟨g4, c4, rfl, hg4l, hrow4', hb4⟩ := cr_app1 HTK.out hrow4 hg4 hor4
                  have hs4 := hb4.size
                  have s2a := (hb4.cell (p := ⟨wr.heap.size, 0, none⟩) HBX.out).trans b0
                  have s2b := (hb4.cell (p := ⟨wr.heap.size, 1, none⟩) HBX.out).trans b1
                  have cL2 := (hb4.cell (p := ⟨w.heap.size, 1, none⟩) HCX.out).trans cL0
                  have SEG4 : Obj := (.cells #[.int .i64 x.n, .slice (some ⟨g4, 0, none⟩) N c4, .int .i64 (N : Int)] 108)
                  have s3a := cell_old s2a (Nat.lt_of_lt_of_le HBX.out hs4) (.cells #[.int .i64 x.n, .slice (some ⟨g4, 0, none⟩) N c4, .int .i64 (N : Int)] 108)
                  have s3b := cell_old s2b (Nat.lt_of_lt_of_le HBX.out hs4) (.cells #[.int .i64 x.n, .slice (some ⟨g4, 0, none⟩) N c4, .int .i64 (N : Int)] 108)
                  have cL3 := cell_old cL2 (Nat.lt_of_lt_of_le HCX.out hs4) (.cells #[.int .i64 x.n, .slice (some ⟨g4, 0, none⟩) N c4, .int .i64 (N : Int)] 108)
                  have HROW5 := Lib.hid ((HC0.out.ref.below hb4).row.below (below_new (.cells #[.int .i64 x.n, .slice (some ⟨g4, 0, none⟩) N c4, .int .i64 (N : Int)] 108)))
                  rw [ECV.out] at HROW5
                  have HSRC5 := Lib.hid (src_seg (W := w4) x.n (N : Int) (some ⟨g4, 0, none⟩) N c4)
                  have HROW4 := Lib.hid hrow4'
                  have HB4 := Lib.hid hb4
                  have HG4 : Hid (V0.heap.size ≤ g4) := hg4l
                  clear hrow4 hg4 hor4 hrow4' hb4 hg4l hs4 SEG4
                  refine hK.out _ _ (by first | assumption | exact ⟨by assumption, by assumption⟩) (fun hHeld => ?_)
                  clear hK K
                  (try dsimp only)
                  (try simp only [List.getElem_toArray, List.getElem_cons_succ, List.getElem_cons_zero, Act.put, List.setIfInBounds_toArray, List.set_cons_zero, List.set_cons_succ])
                  refine wpAnyH_take (i := 14) (v := ?_) rfl (by kernel_rfl) (by kernel_rfl) (by kernel_rfl) (fun _ _ _ h => h) (Or.inl ⟨by rfl, ?_⟩) (by assumption) ?_
                  rotate_left 1
                  · (intro wq hSw; (try dsimp only at hSw); go_simp; try with_reducible rfl)
                  (try dsimp only)
                  (try simp only [List.getElem_toArray, List.getElem_cons_succ, List.getElem_cons_zero, Act.put, List.setIfInBounds_toArray, List.set_cons_zero, List.set_cons_succ])
                  refine wpAnyH_ready (rs := [15]) (by kernel_rfl) (by simp) ?_
                  refine AllReadyH.cons rfl (fun K hK => ?_) AllReadyH.nil
                  go_simp
                  refine hK.out _ _ (by first | assumption | exact ⟨by assumption, by assumption⟩) (fun hHeld => ?_)
                  clear hK K
                  (try dsimp only)
                  (try simp only [List.getElem_toArray, List.getElem_cons_succ, List.getElem_cons_zero, Act.put, List.setIfInBounds_toArray, List.set_cons_zero, List.set_cons_succ])
                  refine wpAnyH_ready (rs := [16]) (by kernel_rfl) (by simp) ?_
                  refine AllReadyH.cons rfl (fun K hK => ?_) AllReadyH.nil
                  refine step_append_row 79 108 Tryz.underlying79 infoSeg rfl (by decide) (by decide) rfl _ _ 79 rfl C.L.length 1 (C.L.flatMap RSeg.cells) [.int .i64 x.n, .slice (some ⟨g4, 0, none⟩) N c4, .int .i64 (N : Int)] _ _ rfl rfl HROW5.out HSRC5.out (by have := HCL.out; omega) ?_
                  intro v5 w5 hrow5 hg5 hor5
                  rw [← ECV.out] at hg5 hor5
                  obtain ⟨hfin, ⟨A5, c5, rfl⟩, hk5⟩ := cr_app2 HC0.out (Nat.le_refl _) HX.out HLN.out HN0.out HXS.out HTK.out HG4.out HROW4.out HB4.out hrow5 hg5 hor5
                  have HFIN := Lib.hid hfin
                  have s4a := (World.cell?_of_block (a := ⟨wr.heap.size, 0, none⟩) (hk5 wr.heap.size HBX.out HCN.out)).trans b0
                  have s4b := (World.cell?_of_block (a := ⟨wr.heap.size, 1, none⟩) (hk5 wr.heap.size HBX.out HCN.out)).trans b1
                  have hh5 := (hk5 w.heap.size HCX.out (fun e => HC0.out.ref.own e)).trans HC0.out.ref.head
                  have cL5 := cell_of hh5 1
                  have f5 := free0 hh5 1
                  simp at cL5
                  have s5a : ((w5.setCell ⟨w.heap.size, 1, none⟩ (.slice A5 (C.L.length + 1) c5)).cell? ⟨wr.heap.size, 0, none⟩) = some (.int .i64 x.n) := (World.cell?_of_block (a := ⟨wr.heap.size, 0, none⟩) (Below.heap_setCell _ _ _ _ HWC.out.symm)).trans s4a
                  have s5b : ((w5.setCell ⟨w.heap.size, 1, none⟩ (.slice A5 (C.L.length + 1) c5)).cell? ⟨wr.heap.size, 1, none⟩) = some (.slice (some ⟨gx, 0, none⟩) x.b.length cx) := (World.cell?_of_block (a := ⟨wr.heap.size, 1, none⟩) (Below.heap_setCell _ _ _ _ HWC.out.symm)).trans s4b
                  clear hrow5 hg5 hor5 hfin hk5 hh5
                  refine hK.out _ _ (by first | assumption | exact ⟨by assumption, by assumption⟩) (fun hHeld => ?_)
                  clear hK K
                  (try dsimp only)
                  (try simp only [List.getElem_toArray, List.getElem_cons_succ, List.getElem_cons_zero, Act.put, List.setIfInBounds_toArray, List.set_cons_zero, List.set_cons_succ])
                  refine wpAnyH_take (i := 17) (v := ?_) rfl (by kernel_rfl) (by kernel_rfl) (by kernel_rfl) (fun _ _ _ h => h) (Or.inl ⟨by rfl, ?_⟩) (by assumption) ?_
                  rotate_left 1
                  · (intro wq hSw; (try dsimp only at hSw); go_simp; try with_reducible rfl)
                  (try dsimp only)
                  (try simp only [List.getElem_toArray, List.getElem_cons_succ, List.getElem_cons_zero, Act.put, List.setIfInBounds_toArray, List.set_cons_zero, List.set_cons_succ])
                  refine wpAnyH_take (i := 18) (v := ?_) rfl (by kernel_rfl) (by kernel_rfl) (by kernel_rfl) (fun _ _ _ h => h) (Or.inl ⟨by rfl, ?_⟩) (by assumption) ?_
                  rotate_left 1
                  · (intro wq hSw; (try dsimp only at hSw); go_simp; try with_reducible rfl)
                  (try dsimp only)
                  (try simp only [List.getElem_toArray, List.getElem_cons_succ, List.getElem_cons_zero, Act.put, List.setIfInBounds_toArray, List.set_cons_zero, List.set_cons_succ])
                  refine wpAnyH_ready (rs := [19]) (by kernel_rfl) (by simp) ?_
                  refine AllReadyH.cons rfl (fun K hK => ?_) AllReadyH.nil
                  go_simp
                  refine hK.out _ _ (by first | assumption | exact ⟨by assumption, by assumption⟩) (fun hHeld => ?_)
                  clear hK K
                  (try dsimp only)
                  (try simp only [List.getElem_toArray, List.getElem_cons_succ, List.getElem_cons_zero, Act.put, List.setIfInBounds_toArray, List.set_cons_zero, List.set_cons_succ])
                  refine wpAnyH_done (by kernel_rfl) ?_ _
                  go_wp2_with fail
                  go_roundw
                  case rel =>
                    obtain ⟨C2, hC2⟩ := HFIN.out
                    exact ⟨k + 1, C2, by omega, by go_num, hC2⟩
                  case measure => simp [intOf]; omega
                · refine step_append_row 32 5 Tryz.underlying32 rinfo5 rfl (by decide) (by decide) rfl _ _ 32 rfl 0 N [] (bc (x.b.take N)) _ _ rfl rfl HROW.out HSRC.out (by have := HNL.out; omega) ?_
                  intro v4 w4 hrow4 hg4 hor4
                  obtain ⟨g4, c4, rfl, hg4l, hrow4', hb4⟩ := cr_app1 HTK.out hrow4 hg4 hor4
                  have hs4 := hb4.size
                  have s2a := (hb4.cell (p := ⟨wr.heap.size, 0, none⟩) HBX.out).trans b0
                  have s2b := (hb4.cell (p := ⟨wr.heap.size, 1, none⟩) HBX.out).trans b1
                  have cL2 := (hb4.cell (p := ⟨w.heap.size, 1, none⟩) HCX.out).trans cL0
                  have SEG4 : Obj := (.cells #[.int .i64 x.n, .slice (some ⟨g4, 0, none⟩) N c4, .int .i64 (N : Int)] 108)
                  have s3a := cell_old s2a (Nat.lt_of_lt_of_le HBX.out hs4) (.cells #[.int .i64 x.n, .slice (some ⟨g4, 0, none⟩) N c4, .int .i64 (N : Int)] 108)
                  have s3b := cell_old s2b (Nat.lt_of_lt_of_le HBX.out hs4) (.cells #[.int .i64 x.n, .slice (some ⟨g4, 0, none⟩) N c4, .int .i64 (N : Int)] 108)
                  have cL3 := cell_old cL2 (Nat.lt_of_lt_of_le HCX.out hs4) (.cells #[.int .i64 x.n, .slice (some ⟨g4, 0, none⟩) N c4, .int .i64 (N : Int)] 108)
                  have HROW5 := Lib.hid ((HC0.out.ref.below hb4).row.below (below_new (.cells #[.int .i64 x.n, .slice (some ⟨g4, 0, none⟩) N c4, .int .i64 (N : Int)] 108)))
                  rw [ECV.out] at HROW5
                  have HSRC5 := Lib.hid (src_seg (W := w4) x.n (N : Int) (some ⟨g4, 0, none⟩) N c4)
                  have HROW4 := Lib.hid hrow4'
                  have HB4 := Lib.hid hb4
                  have HG4 : Hid (V0.heap.size ≤ g4) := hg4l
                  clear hrow4 hg4 hor4 hrow4' hb4 hg4l hs4 SEG4
                  refine hK.out _ _ (by first | assumption | exact ⟨by assumption, by assumption⟩) (fun hHeld => ?_)
                  clear hK K
                  (try dsimp only)
                  (try simp only [List.getElem_toArray, List.getElem_cons_succ, List.getElem_cons_zero, Act.put, List.setIfInBounds_toArray, List.set_cons_zero, List.set_cons_succ])
                  refine wpAnyH_take (i := 14) (v := ?_) rfl (by kernel_rfl) (by kernel_rfl) (by kernel_rfl) (fun _ _ _ h => h) (Or.inl ⟨by rfl, ?_⟩) (by assumption) ?_
                  rotate_left 1
                  · (intro wq hSw; (try dsimp only at hSw); go_simp; try with_reducible rfl)
                  (try dsimp only)
                  (try simp only [List.getElem_toArray, List.getElem_cons_succ, List.getElem_cons_zero, Act.put, List.setIfInBounds_toArray, List.set_cons_zero, List.set_cons_succ])
                  refine wpAnyH_ready (rs := [4, 15]) (by kernel_rfl) (by simp) ?_
                  refine AllReadyH.cons rfl (fun K hK => ?_) (AllReadyH.cons rfl (fun K hK => ?_) AllReadyH.nil)
                  · go_simp
                    refine hK.out _ _ (by first | assumption | exact ⟨by assumption, by assumption⟩) (fun hHeld => ?_)
                    clear hK K
                    (try dsimp only)
                    (try simp only [List.getElem_toArray, List.getElem_cons_succ, List.getElem_cons_zero, Act.put, List.setIfInBounds_toArray, List.set_cons_zero, List.set_cons_succ])
                    refine wpAnyH_ready (rs := [15]) (by kernel_rfl) (by simp) ?_
                    refine AllReadyH.cons rfl (fun K hK => ?_) AllReadyH.nil
                    go_simp
                    refine hK.out _ _ (by first | assumption | exact ⟨by assumption, by assumption⟩) (fun hHeld => ?_)
                    clear hK K
                    (try dsimp only)
                    (try simp only [List.getElem_toArray, List.getElem_cons_succ, List.getElem_cons_zero, Act.put, List.setIfInBounds_toArray, List.set_cons_zero, List.set_cons_succ])
                    refine wpAnyH_ready (rs := [16]) (by kernel_rfl) (by simp) ?_
                    refine AllReadyH.cons rfl (fun K hK => ?_) AllReadyH.nil
                    refine step_append_row 79 108 Tryz.underlying79 infoSeg rfl (by decide) (by decide) rfl _ _ 79 rfl C.L.length 1 (C.L.flatMap RSeg.cells) [.int .i64 x.n, .slice (some ⟨g4, 0, none⟩) N c4, .int .i64 (N : Int)] _ _ rfl rfl HROW5.out HSRC5.out (by have := HCL.out; omega) ?_
                    intro v5 w5 hrow5 hg5 hor5
                    rw [← ECV.out] at hg5 hor5
                    obtain ⟨hfin, ⟨A5, c5, rfl⟩, hk5⟩ := cr_app2 HC0.out (Nat.le_refl _) HX.out HLN.out HN0.out HXS.out HTK.out HG4.out HROW4.out HB4.out hrow5 hg5 hor5
                    have HFIN := Lib.hid hfin
                    have s4a := (World.cell?_of_block (a := ⟨wr.heap.size, 0, none⟩) (hk5 wr.heap.size HBX.out HCN.out)).trans b0
                    have s4b := (World.cell?_of_block (a := ⟨wr.heap.size, 1, none⟩) (hk5 wr.heap.size HBX.out HCN.out)).trans b1
                    have hh5 := (hk5 w.heap.size HCX.out (fun e => HC0.out.ref.own e)).trans HC0.out.ref.head
                    have cL5 := cell_of hh5 1
                    have f5 := free0 hh5 1
                    simp at cL5
                    have s5a : ((w5.setCell ⟨w.heap.size, 1, none⟩ (.slice A5 (C.L.length + 1) c5)).cell? ⟨wr.heap.size, 0, none⟩) = some (.int .i64 x.n) := (World.cell?_of_block (a := ⟨wr.heap.size, 0, none⟩) (Below.heap_setCell _ _ _ _ HWC.out.symm)).trans s4a
                    have s5b : ((w5.setCell ⟨w.heap.size, 1, none⟩ (.slice A5 (C.L.length + 1) c5)).cell? ⟨wr.heap.size, 1, none⟩) = some (.slice (some ⟨gx, 0, none⟩) x.b.length cx) := (World.cell?_of_block (a := ⟨wr.heap.size, 1, none⟩) (Below.heap_setCell _ _ _ _ HWC.out.symm)).trans s4b
                    clear hrow5 hg5 hor5 hfin hk5 hh5
                    refine hK.out _ _ (by first | assumption | exact ⟨by assumption, by assumption⟩) (fun hHeld => ?_)
                    clear hK K
                    (try dsimp only)
                    (try simp only [List.getElem_toArray, List.getElem_cons_succ, List.getElem_cons_zero, Act.put, List.setIfInBounds_toArray, List.set_cons_zero, List.set_cons_succ])
                    refine wpAnyH_take (i := 17) (v := ?_) rfl (by kernel_rfl) (by kernel_rfl) (by kernel_rfl) (fun _ _ _ h => h) (Or.inl ⟨by rfl, ?_⟩) (by assumption) ?_
                    rotate_left 1
                    · (intro wq hSw; (try dsimp only at hSw); go_simp; try with_reducible rfl)
                    (try dsimp only)
                    (try simp only [List.getElem_toArray, List.getElem_cons_succ, List.getElem_cons_zero, Act.put, List.setIfInBounds_toArray, List.set_cons_zero, List.set_cons_succ])
                    refine wpAnyH_take (i := 18) (v := ?_) rfl (by kernel_rfl) (by kernel_rfl) (by kernel_rfl) (fun _ _ _ h => h) (Or.inl ⟨by rfl, ?_⟩) (by assumption) ?_
                    rotate_left 1
                    · (intro wq hSw; (try dsimp only at hSw); go_simp; try with_reducible rfl)
                    (try dsimp only)
                    (try simp only [List.getElem_toArray, List.getElem_cons_succ, List.getElem_cons_zero, Act.put, List.setIfInBounds_toArray, List.set_cons_zero, List.set_cons_succ])
                    refine wpAnyH_ready (rs := [19]) (by kernel_rfl) (by simp) ?_
                    refine AllReadyH.cons rfl (fun K hK => ?_) AllReadyH.nil
                    go_simp
                    refine hK.out _ _ (by first | assumption | exact ⟨by assumption, by assumption⟩) (fun hHeld => ?_)
                    clear hK K
                    (try dsimp only)
                    (try simp only [List.getElem_toArray, List.getElem_cons_succ, List.getElem_cons_zero, Act.put, List.setIfInBounds_toArray, List.set_cons_zero, List.set_cons_succ])
                    refine wpAnyH_done (by kernel_rfl) ?_ _
                    go_wp2_with fail
                    go_roundw
                    case rel =>
                      obtain ⟨C2, hC2⟩ := HFIN.out
                      exact ⟨k + 1, C2, by omega, by go_num, hC2⟩
                    case measure => simp [intOf]; omega
                  · go_simp
                    refine hK.out _ _ (by first | assumption | exact ⟨by assumption, by assumption⟩) (fun hHeld => ?_)
                    clear hK K
                    (try dsimp only)
                    (try simp only [List.getElem_toArray, List.getElem_cons_succ, List.getElem_cons_zero, Act.put, List.setIfInBounds_toArray, List.set_cons_zero, List.set_cons_succ])
                    refine wpAnyH_ready (rs := [4]) (by kernel_rfl) (by simp) ?_
                    refine AllReadyH.cons rfl (fun K hK => ?_) AllReadyH.nil
                    go_simp
                    refine hK.out _ _ (by first | assumption | exact ⟨by assumption, by assumption⟩) (fun hHeld => ?_)
                    clear hK K
                    (try dsimp only)
                    (try simp only [List.getElem_toArray, List.getElem_cons_succ, List.getElem_cons_zero, Act.put, List.setIfInBounds_toArray, List.set_cons_zero, List.set_cons_succ])
                    refine wpAnyH_ready (rs := [16]) (by kernel_rfl) (by simp) ?_
                    refine AllReadyH.cons rfl (fun K hK => ?_) AllReadyH.nil
                    refine step_append_row 79 108 Tryz.underlying79 infoSeg rfl (by decide) (by decide) rfl _ _ 79 rfl C.L.length 1 (C.L.flatMap RSeg.cells) [.int .i64 x.n, .slice (some ⟨g4, 0, none⟩) N c4, .int .i64 (N : Int)] _ _ rfl rfl HROW5.out HSRC5.out (by have := HCL.out; omega) ?_
                    intro v5 w5 hrow5 hg5 hor5
                    rw [← ECV.out] at hg5 hor5
                    obtain ⟨hfin, ⟨A5, c5, rfl⟩, hk5⟩ := cr_app2 HC0.out (Nat.le_refl _) HX.out HLN.out HN0.out HXS.out HTK.out HG4.out HROW4.out HB4.out hrow5 hg5 hor5
                    have HFIN := Lib.hid hfin
                    have s4a := (World.cell?_of_block (a := ⟨wr.heap.size, 0, none⟩) (hk5 wr.heap.size HBX.out HCN.out)).trans b0
                    have s4b := (World.cell?_of_block (a := ⟨wr.heap.size, 1, none⟩) (hk5 wr.heap.size HBX.out HCN.out)).trans b1
                    have hh5 := (hk5 w.heap.size HCX.out (fun e => HC0.out.ref.own e)).trans HC0.out.ref.head
                    have cL5 := cell_of hh5 1
                    have f5 := free0 hh5 1
                    simp at cL5
                    have s5a : ((w5.setCell ⟨w.heap.size, 1, none⟩ (.slice A5 (C.L.length + 1) c5)).cell? ⟨wr.heap.size, 0, none⟩) = some (.int .i64 x.n) := (World.cell?_of_block (a := ⟨wr.heap.size, 0, none⟩) (Below.heap_setCell _ _ _ _ HWC.out.symm)).trans s4a
                    have s5b : ((w5.setCell ⟨w.heap.size, 1, none⟩ (.slice A5 (C.L.length + 1) c5)).cell? ⟨wr.heap.size, 1, none⟩) = some (.slice (some ⟨gx, 0, none⟩) x.b.length cx) := (World.cell?_of_block (a := ⟨wr.heap.size, 1, none⟩) (Below.heap_setCell _ _ _ _ HWC.out.symm)).trans s4b
                    clear hrow5 hg5 hor5 hfin hk5 hh5
                    refine hK.out _ _ (by first | assumption | exact ⟨by assumption, by assumption⟩) (fun hHeld => ?_)
                    clear hK K
                    (try dsimp only)
                    (try simp only [List.getElem_toArray, List.getElem_cons_succ, List.getElem_cons_zero, Act.put, List.setIfInBounds_toArray, List.set_cons_zero, List.set_cons_succ])
                    refine wpAnyH_take (i := 17) (v := ?_) rfl (by kernel_rfl) (by kernel_rfl) (by kernel_rfl) (fun _ _ _ h => h) (Or.inl ⟨by rfl, ?_⟩) (by assumption) ?_
                    rotate_left 1
                    · (intro wq hSw; (try dsimp only at hSw); go_simp; try with_reducible rfl)
                    (try dsimp only)
                    (try simp only [List.getElem_toArray, List.getElem_cons_succ, List.getElem_cons_zero, Act.put, List.setIfInBounds_toArray, List.set_cons_zero, List.set_cons_succ])
                    refine wpAnyH_take (i := 18) (v := ?_) rfl (by kernel_rfl) (by kernel_rfl) (by kernel_rfl) (fun _ _ _ h => h) (Or.inl ⟨by rfl, ?_⟩) (by assumption) ?_
                    rotate_left 1
                    · (intro wq hSw; (try dsimp only at hSw); go_simp; try with_reducible rfl)
                    (try dsimp only)
                    (try simp only [List.getElem_toArray, List.getElem_cons_succ, List.getElem_cons_zero, Act.put, List.setIfInBounds_toArray, List.set_cons_zero, List.set_cons_succ])
                    refine wpAnyH_ready (rs := [19]) (by kernel_rfl) (by simp) ?_
                    refine AllReadyH.cons rfl (fun K hK => ?_) AllReadyH.nil
                    go_simp
                    refine hK.out _ _ (by first | assumption | exact ⟨by assumption, by assumption⟩) (fun hHeld => ?_)
                    clear hK K
                    (try dsimp only)
                    (try simp only [List.getElem_toArray, List.getElem_cons_succ, List.getElem_cons_zero, Act.put, List.setIfInBounds_toArray, List.set_cons_zero, List.set_cons_succ])
                    refine wpAnyH_done (by kernel_rfl) ?_ _
                    go_wp2_with fail
                    go_roundw
                    case rel =>
                      obtain ⟨C2, hC2⟩ := HFIN.out
                      exact ⟨k + 1, C2, by omega, by go_num, hC2⟩
                    case measure => simp [intOf]; omega
    · obtain rfl : k = R.L.length := by omega
      go_wp2
      go_ret
      exact HV.out.fin H.out
end Go.Proofs.YtnegnokielmgkaaGreatDoor
