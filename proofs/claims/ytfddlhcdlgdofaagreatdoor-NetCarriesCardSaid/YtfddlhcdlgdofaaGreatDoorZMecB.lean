/- mess.May at any message. (genmecb.py wrote its walk.) -/
import Derived.Test.YtfddlhcdlgdofaaGreatDoorZMecC
set_option linter.unusedSimpArgs false
set_option linter.unusedVariables false
set_option linter.unnecessarySimpa false
namespace Go.Proofs.YtfddlhcdlgdofaaGreatDoor
open Go.RowKit Go.Shelf

/-- A message as a value, its lists wherever they lie. -/
def MsgIs (w : World) (v : Value) (m : MsgV) : Prop := ∃ tA tc oA oc, v = .agg #[.int .i64 m.kd, .int .i64 m.fr, .int .i64 m.tt, .int .i64 m.g, .int .i64 m.nd, .int .i64 m.tr, .int .i64 m.lw, .int .i64 m.co, .int .i64 m.ti, .slice tA m.tl.length tc, .slice oA m.os.length oc] ∧ NumsAt w (.slice tA m.tl.length tc) m.tl ∧ OpsAt w (.slice oA m.os.length oc) m.os ∧ KeysIn m.os
theorem MsgIs.below {w w' : World} {v : Value} {m : MsgV} (h : MsgIs w v m) (hb : Below w.heap.size w w') : MsgIs w' v m := by
  obtain ⟨tA, tc, oA, oc, e, h1, h2, h3⟩ := h
  exact ⟨tA, tc, oA, oc, e, h1.below hb, h2.below hb, h3⟩
set_option maxRecDepth 100000 in
set_option maxHeartbeats 4000000 in
theorem May_any {w : World} {v : Value} {m : MsgV} (hG : Glob w) (h : MsgIs w v m) :
    Calls Tryz.prog 63 #[v] w fun e w' => e = .returned (.bool (mayM m)) ∧ Below w.heap.size w w' := by
  obtain ⟨tA, tc, oA, oc, rfl, ht, ho, hk⟩ := h
  obtain ⟨kd, fr, tt, g, nd, tr, lw, co, ti, tl, os⟩ := m
  simp only at ht ho hk ⊢
  have HCK := Lib.hid (fun W (hW : Below w.heap.size w W) => Check_any (hG.below hW) (ho.below hW) hk)
  obtain ⟨tn, htn⟩ : ∃ n, tl.length = n := ⟨_, rfl⟩
  obtain ⟨on, hon⟩ : ∃ n, os.length = n := ⟨_, rfl⟩
  rw [hon] at HCK
  obtain ⟨ck, hck⟩ : ∃ c, checkO os = c := ⟨_, rfl⟩
  rw [hck] at HCK
  have HOF := Lib.hid (fun W => of_any' kd W)
  obtain ⟨kb, hkb⟩ : ∃ b, kindM kd = b := ⟨_, rfl⟩
  obtain ⟨lb, hlb⟩ : ∃ b, lowM kd = b := ⟨_, rfl⟩
  obtain ⟨yb, hyb⟩ : ∃ b, tryM kd = b := ⟨_, rfl⟩
  obtain ⟨ob, hob⟩ : ∃ b, opsM kd = b := ⟨_, rfl⟩
  obtain ⟨db, hdb⟩ : ∃ b, toldM kd = b := ⟨_, rfl⟩
  obtain ⟨cb, hcb⟩ : ∃ b, codeM kd = b := ⟨_, rfl⟩
  rw [hkb, hlb, hyb, hob, hdb, hcb] at HOF
  obtain ⟨f1, hf1⟩ : ∃ b, fitP (!lb) fr 1 3 = b := ⟨_, rfl⟩
  have HF1 := Lib.hid (fun W => fits_int (!lb) fr 1 3 W)
  rw [hf1] at HF1
  obtain ⟨f2, hf2⟩ : ∃ b, fitP lb tt 1 3 = b := ⟨_, rfl⟩
  have HF2 := Lib.hid (fun W => fits_int lb tt 1 3 W)
  rw [hf2] at HF2
  obtain ⟨f3, hf3⟩ : ∃ b, fitP true g 1 1048576 = b := ⟨_, rfl⟩
  have HF3 := Lib.hid (fun W => fits_int true g 1 1048576 W)
  rw [hf3] at HF3
  obtain ⟨f4, hf4⟩ : ∃ b, fitP true nd 0 255 = b := ⟨_, rfl⟩
  have HF4 := Lib.hid (fun W => fits_int true nd 0 255 W)
  rw [hf4] at HF4
  obtain ⟨f5, hf5⟩ : ∃ b, fitP yb tr 0 1048576 = b := ⟨_, rfl⟩
  have HF5 := Lib.hid (fun W => fits_int yb tr 0 1048576 W)
  rw [hf5] at HF5
  obtain ⟨f6, hf6⟩ : ∃ b, fitP lb lw 1 1048577 = b := ⟨_, rfl⟩
  have HF6 := Lib.hid (fun W => fits_int lb lw 1 1048577 W)
  rw [hf6] at HF6
  obtain ⟨f7, hf7⟩ : ∃ b, fitP cb co 1 99 = b := ⟨_, rfl⟩
  have HF7 := Lib.hid (fun W => fits_errno cb co 1 99 W)
  rw [hf7] at HF7
  obtain ⟨f8, hf8⟩ : ∃ b, fitP db ti 0 9223372036854775807 = b := ⟨_, rfl⟩
  have HF8 := Lib.hid (fun W => fits_i64 db ti 0 9223372036854775807 W)
  rw [hf8] at HF8
  obtain ⟨f9, hf9⟩ : ∃ b, fitP db (tn : Int) 0 8 = b := ⟨_, rfl⟩
  have HF9 := Lib.hid (fun W => fits_int db (tn : Int) 0 8 W)
  rw [hf9] at HF9
  obtain ⟨f10, hf10⟩ : ∃ b, fitP ob (on : Int) 0 8 = b := ⟨_, rfl⟩
  have HF10 := Lib.hid (fun W => fits_int ob (on : Int) 0 8 W)
  rw [hf10] at HF10
  have HE : Hid (mayM ⟨kd, fr, tt, g, nd, tr, lw, co, ti, tl, os⟩ = (kb && (f1 && (f2 && (f3 && (f4 && (f5 && (f6 && (f7 && (f8 && (f9 && (f10 && decide (ck = 0))))))))))))) := Lib.hid (by
    unfold mayM
    simp only
    rw [htn, hon, hck, hkb, hlb, hyb, hob, hdb, hcb, hf1, hf2, hf3, hf4, hf5, hf6, hf7, hf8, hf9, hf10])
  rw [htn, hon]
  have HT := Lib.hid htn
  have HON := Lib.hid hon
  clear ht ho hk hG htn hon hck hkb hlb hyb hob hdb hcb hf1 hf2 hf3 hf4 hf5 hf6 hf7 hf8 hf9 hf10
  have hb0 := below_new (w := w) (.cells #[.int .i64 kd, .int .i64 fr, .int .i64 tt, .int .i64 g, .int .i64 nd, .int .i64 tr, .int .i64 lw, .int .i64 co, .int .i64 ti, .slice tA tn tc, .slice oA on oc] 50)
  have HB0 := Lib.hid hb0
  have HAT := Lib.hid (alloc_at w (.cells #[.int .i64 kd, .int .i64 fr, .int .i64 tt, .int .i64 g, .int .i64 nd, .int .i64 tr, .int .i64 lw, .int .i64 co, .int .i64 ti, .slice tA tn tc, .slice oA on oc] 50))
  clear hb0
  go_enter Tryz.func63, Tryz.ntmps63
  go_wp2_with fail
  refine (HOF.out _).mono ?_
  rintro e w1 ⟨rfl, hb1⟩
  have HB1 := Lib.hid (HB0.out.trans (hb1.mono HB0.out.size))
  have hz : w.heap.size < w1.heap.size := by have := hb1.size; rw [asz] at this; omega
  have c1 : w1.cell? ⟨w.heap.size, 1, none⟩ = some (.int .i64 fr) := (hb1.cell (p := ⟨w.heap.size, 1, none⟩) (by show w.heap.size < _; rw [asz]; omega)).trans (cell_of HAT.out 1)
  have c2 : w1.cell? ⟨w.heap.size, 2, none⟩ = some (.int .i64 tt) := (hb1.cell (p := ⟨w.heap.size, 2, none⟩) (by show w.heap.size < _; rw [asz]; omega)).trans (cell_of HAT.out 2)
  have c3 : w1.cell? ⟨w.heap.size, 3, none⟩ = some (.int .i64 g) := (hb1.cell (p := ⟨w.heap.size, 3, none⟩) (by show w.heap.size < _; rw [asz]; omega)).trans (cell_of HAT.out 3)
  have c4 : w1.cell? ⟨w.heap.size, 4, none⟩ = some (.int .i64 nd) := (hb1.cell (p := ⟨w.heap.size, 4, none⟩) (by show w.heap.size < _; rw [asz]; omega)).trans (cell_of HAT.out 4)
  have c5 : w1.cell? ⟨w.heap.size, 5, none⟩ = some (.int .i64 tr) := (hb1.cell (p := ⟨w.heap.size, 5, none⟩) (by show w.heap.size < _; rw [asz]; omega)).trans (cell_of HAT.out 5)
  have c6 : w1.cell? ⟨w.heap.size, 6, none⟩ = some (.int .i64 lw) := (hb1.cell (p := ⟨w.heap.size, 6, none⟩) (by show w.heap.size < _; rw [asz]; omega)).trans (cell_of HAT.out 6)
  have c7 : w1.cell? ⟨w.heap.size, 7, none⟩ = some (.int .i64 co) := (hb1.cell (p := ⟨w.heap.size, 7, none⟩) (by show w.heap.size < _; rw [asz]; omega)).trans (cell_of HAT.out 7)
  have c8 : w1.cell? ⟨w.heap.size, 8, none⟩ = some (.int .i64 ti) := (hb1.cell (p := ⟨w.heap.size, 8, none⟩) (by show w.heap.size < _; rw [asz]; omega)).trans (cell_of HAT.out 8)
  have c9 : w1.cell? ⟨w.heap.size, 9, none⟩ = some (.slice tA tn tc) := (hb1.cell (p := ⟨w.heap.size, 9, none⟩) (by show w.heap.size < _; rw [asz]; omega)).trans (cell_of HAT.out 9)
  have c10 : w1.cell? ⟨w.heap.size, 10, none⟩ = some (.slice oA on oc) := (hb1.cell (p := ⟨w.heap.size, 10, none⟩) (by show w.heap.size < _; rw [asz]; omega)).trans (cell_of HAT.out 10)
  clear hb1
  have HBP := Lib.hid (HB1.out.trans ((below_new (w := w1) (.cells #[.bool yb, .bool lb, .bool ob, .bool db, .bool cb] 182)).mono HB1.out.size))
  cases kb with
  | false =>
    go_wp2_with fail
    go_ret
    exact ⟨ret_bool (by rw [HE.out]; rfl), HBP.out⟩
  | true =>

    go_wp2_with fail
    refine (HF1.out _).mono ?_
    rintro e w2 ⟨rfl, rfl⟩
    cases f1 with
    | false =>
      go_wp2_with fail
      go_ret
      exact ⟨ret_bool (by rw [HE.out]; rfl), HBP.out⟩
    | true =>
      go_wp2_with fail
      refine (HF2.out _).mono ?_
      rintro e w2 ⟨rfl, rfl⟩
      cases f2 with
      | false =>
        go_wp2_with fail
        go_ret
        exact ⟨ret_bool (by rw [HE.out]; rfl), HBP.out⟩
      | true =>
        go_wp2_with fail
        refine (HF3.out _).mono ?_
        rintro e w2 ⟨rfl, rfl⟩
        cases f3 with
        | false =>
          go_wp2_with fail
          go_ret
          exact ⟨ret_bool (by rw [HE.out]; rfl), HBP.out⟩
        | true =>
          go_wp2_with fail
          refine (HF4.out _).mono ?_
          rintro e w2 ⟨rfl, rfl⟩
          cases f4 with
          | false =>
            go_wp2_with fail
            go_ret
            exact ⟨ret_bool (by rw [HE.out]; rfl), HBP.out⟩
          | true =>
            go_wp2_with fail
            refine (HF5.out _).mono ?_
            rintro e w2 ⟨rfl, rfl⟩
            cases f5 with
            | false =>
              go_wp2_with fail
              go_ret
              exact ⟨ret_bool (by rw [HE.out]; rfl), HBP.out⟩
            | true =>
              go_wp2_with fail
              refine (HF6.out _).mono ?_
              rintro e w2 ⟨rfl, rfl⟩
              cases f6 with
              | false =>
                go_wp2_with fail
                go_ret
                exact ⟨ret_bool (by rw [HE.out]; rfl), HBP.out⟩
              | true =>
                go_wp2_with fail
                refine (HF7.out _).mono ?_
                rintro e w2 ⟨rfl, rfl⟩
                cases f7 with
                | false =>
                  go_wp2_with fail
                  go_ret
                  exact ⟨ret_bool (by rw [HE.out]; rfl), HBP.out⟩
                | true =>
                  go_wp2_with fail
                  refine (HF8.out _).mono ?_
                  rintro e w2 ⟨rfl, rfl⟩
                  cases f8 with
                  | false =>
                    go_wp2_with fail
                    go_ret
                    exact ⟨ret_bool (by rw [HE.out]; rfl), HBP.out⟩
                  | true =>
                    go_wp2_with fail
                    refine (HF9.out _).mono ?_
                    rintro e w2 ⟨rfl, rfl⟩
                    cases f9 with
                    | false =>
                      go_wp2_with fail
                      go_ret
                      exact ⟨ret_bool (by rw [HE.out]; rfl), HBP.out⟩
                    | true =>
                      go_wp2_with fail
                      refine (HF10.out _).mono ?_
                      rintro e w2 ⟨rfl, rfl⟩
                      cases f10 with
                      | false =>
                        go_wp2_with fail
                        go_ret
                        exact ⟨ret_bool (by rw [HE.out]; rfl), HBP.out⟩
                      | true =>
                        go_wp2_with fail
                        refine (HCK.out _ HBP.out).mono ?_
                        rintro e w3 ⟨rfl, hb3⟩
                        have HB3 := Lib.hid (HBP.out.trans (hb3.mono HBP.out.size))
                        clear hb3
                        go_wp2_with fail
                        go_ret
                        exact ⟨ret_bool (by rw [HE.out]; cases ck <;> simp <;> omega), HB3.out⟩
end Go.Proofs.YtfddlhcdlgdofaaGreatDoor
