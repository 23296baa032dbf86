/- fault.find, fault.Code, fault.Place and fault.Limit at every chain. -/
import Derived.Test.YtakdhhapckcnaaaDoorErrD
import Derived.Deep.QuietTactic
import Derived.BigQuiet
set_option linter.unusedSimpArgs false
set_option linter.unusedVariables false
namespace Go.Proofs.YtakdhhapckcnaaaDoor
open Go.RowKit

set_option maxRecDepth 100000 in
set_option maxHeartbeats 1000000 in
theorem find_plc {w W : World} {c : List Lk} {v : Value} (hG : Glob w) (h : ErrIs w c v) (hn : c.length < 1000) (hW : Below w.heap.size w W) :
    Calls Tryd.prog 60 #[v] W (AskPost Lk.isPlc c w W 87 (.pointer none)) := by
  have H1 := Lib.hid (ends_any h hW hn)
  have H2 := Lib.hid (fun (W' : World) (hb : Below W.heap.size W W') => ask_plc hG h (hW.trans (hb.mono hW.size)))
  clear h hG hn hW
  go_enter Tryd.func60, Tryd.ntmps60
  go_wp2_with fail
  refine (H1.out).mono ?_
  rintro e w1 ⟨rfl, hb⟩
  have H3 := Lib.hid (H2.out w1 hb)
  have HB := Lib.hid hb
  clear hb H2
  go_wp2_with fail
  refine (H3.out).mono ?_
  rintro e w2 ⟨hb2, hp⟩
  have HB2 := Lib.hid hb2
  clear hb2
  cases hh : hit Lk.isPlc c with
  | nil =>
    rw [hh] at hp
    obtain rfl := hp
    have HH := Lib.hid hh
    clear hh
    go_wp2
    go_ret2
    exact ⟨HB.out.trans (HB2.out.mono HB.out.size), by rw [HH.out]; rfl⟩
  | cons k r =>
    rw [hh] at hp
    obtain ⟨u, hu, rfl⟩ := hp
    have HH := Lib.hid hh
    have HU := Lib.hid hu
    clear hh hu
    go_wp2
    go_ret2
    exact ⟨HB.out.trans (HB2.out.mono HB.out.size), by rw [HH.out]; exact ⟨u, HU.out, rfl⟩⟩
set_option maxRecDepth 100000 in
set_option maxHeartbeats 1000000 in
theorem find_bnd {w W : World} {c : List Lk} {v : Value} (hG : Glob w) (h : ErrIs w c v) (hn : c.length < 1000) (hW : Below w.heap.size w W) :
    Calls Tryd.prog 58 #[v] W (AskPost Lk.isBnd c w W 76 (.pointer none)) := by
  have H1 := Lib.hid (ends_any h hW hn)
  have H2 := Lib.hid (fun (W' : World) (hb : Below W.heap.size W W') => ask_bnd hG h (hW.trans (hb.mono hW.size)))
  clear h hG hn hW
  go_enter Tryd.func58, Tryd.ntmps58
  go_wp2_with fail
  refine (H1.out).mono ?_
  rintro e w1 ⟨rfl, hb⟩
  have H3 := Lib.hid (H2.out w1 hb)
  have HB := Lib.hid hb
  clear hb H2
  go_wp2_with fail
  refine (H3.out).mono ?_
  rintro e w2 ⟨hb2, hp⟩
  have HB2 := Lib.hid hb2
  clear hb2
  cases hh : hit Lk.isBnd c with
  | nil =>
    rw [hh] at hp
    obtain rfl := hp
    have HH := Lib.hid hh
    clear hh
    go_wp2
    go_ret2
    exact ⟨HB.out.trans (HB2.out.mono HB.out.size), by rw [HH.out]; rfl⟩
  | cons k r =>
    rw [hh] at hp
    obtain ⟨u, hu, rfl⟩ := hp
    have HH := Lib.hid hh
    have HU := Lib.hid hu
    clear hh hu
    go_wp2
    go_ret2
    exact ⟨HB.out.trans (HB2.out.mono HB.out.size), by rw [HH.out]; exact ⟨u, HU.out, rfl⟩⟩
set_option maxRecDepth 100000 in
set_option maxHeartbeats 1000000 in
theorem find_num {w W : World} {c : List Lk} {v : Value} (hG : Glob w) (h : ErrIs w c v) (hz : NumOk c) (hn : c.length < 1000) (hW : Below w.heap.size w W) :
    Calls Tryd.prog 59 #[v] W (AskPost Lk.isNum c w W 84 (.agg #[.int .i64 0])) := by
  have hb1 : Below W.heap.size W (W.alloc (.cells #[.int .i64 0] 84)) := (Below.refl _ _).alloc (Nat.le_refl _) _
  have H1 := Lib.hid (ends_any h (hW.trans (hb1.mono hW.size)) hn)
  have H2 := Lib.hid (fun (W' : World) (hb : Below W.heap.size W W') => ask_num hG h hz (hW.trans (hb.mono hW.size)))
  have HB0 := Lib.hid hb1
  clear h hG hn hW hz hb1
  go_enter Tryd.func59, Tryd.ntmps59
  go_wp2_with fail
  refine (H1.out).mono ?_
  rintro e w1 ⟨rfl, hb⟩
  have c1 := new_cell hb
  have f1 := new_free hb
  have hb1 := HB0.out.trans (hb.mono (by simp))
  have H3 := Lib.hid (H2.out w1 hb1)
  have HB := Lib.hid hb1
  have hlt : W.heap.size < w1.heap.size := by have := hb.size; simp at this; omega
  clear hb H2 hb1
  go_wp2_with fail
  refine (H3.out).mono ?_
  rintro e w2 ⟨hb2, hp⟩
  have c2 := (hb2.cell (p := ⟨W.heap.size, 0, none⟩) hlt).trans c1
  have f2 := (hb2.frozen (p := ⟨W.heap.size, 0, none⟩) hlt).trans f1
  have HB2 := Lib.hid hb2
  clear hb2 c1 f1
  cases hh : hit Lk.isNum c with
  | nil =>
    rw [hh] at hp
    obtain rfl := hp
    have HH := Lib.hid hh
    clear hh
    go_wp2
    refine bodyPost_ret (v := .tuple #[.agg #[.int .i64 0], .bool false]) (by simp [results, Tryd.results59, go_sem, c2]) rfl ⟨(HB.out.trans (HB2.out.mono HB.out.size)).setCell (Nat.le_refl _) _, by rw [HH.out]⟩
  | cons k r =>
    rw [hh] at hp
    obtain ⟨u, hu, rfl⟩ := hp
    obtain ⟨e, rfl, rfl, rfl⟩ := inv84 hu
    have HH := Lib.hid hh
    have HU := Lib.hid hu
    clear hh hu
    go_wp2
    refine bodyPost_ret (v := .tuple #[.agg #[.int .i64 e], .bool true]) (by simp [results, Tryd.results59, go_sem, c2]) rfl ⟨(HB.out.trans (HB2.out.mono HB.out.size)).setCell (Nat.le_refl _) _, by rw [HH.out]; exact ⟨_, HU.out, rfl⟩⟩

theorem below_drewN {B : Nat} {a w : World} (h : Below B a w) (n : Nat) : Below B a (w.drewN n) := ⟨h.os, h.tape, h.output, h.size, h.block⟩
def codeOf (c : List Lk) : Int := match c with
  | [] => 0
  | k :: r => match hit Lk.isNum (k :: r) with
    | .num e :: _ => e
    | _ => 2
theorem codeOf_nil {k : Lk} {r : List Lk} (h : hit Lk.isNum (k :: r) = []) : codeOf (k :: r) = 2 := by simp only [codeOf, h]
theorem codeOf_num {k : Lk} {r r' : List Lk} {e : Int} (h : hit Lk.isNum (k :: r) = .num e :: r') : codeOf (k :: r) = e := by simp only [codeOf, h]
def placeOf (c : List Lk) : Int := match hit Lk.isPlc c with
  | .plc p :: _ => p
  | _ => -1
def limitOf (c : List Lk) : Int × Int × Bool := match hit Lk.isBnd c with
  | .bnd l g :: _ => (l, g, true)
  | _ => (0, 0, false)

set_option maxRecDepth 100000 in
set_option maxHeartbeats 1000000 in
theorem code_any {w W : World} {c : List Lk} {v : Value} (hG : Glob w) (h : ErrIs w c v) (hz : NumOk c) (hn : c.length < 1000) (hW : Below w.heap.size w W) :
    Calls Tryd.prog 18 #[v] W fun e w' => e = .returned (.int .i64 (codeOf c)) ∧ Below W.heap.size W w' := by
  have H1 := Lib.hid (find_num hG h hz hn hW)
  cases c with
  | nil =>
    obtain rfl : v = .nilIface := h
    go_enter Tryd.func18, Tryd.ntmps18
    go_wp2
    go_ret
    exact ⟨rfl, Below.refl _ _⟩
  | cons k r =>
    obtain ⟨t, u, rfl⟩ := h.form1
    clear h hG hn hW hz
    go_enter Tryd.func18, Tryd.ntmps18
    go_wp2_with fail
    refine (H1.out).mono ?_
    rintro e w1 ⟨hb, hp⟩
    have HB := Lib.hid hb
    clear hb
    cases hh : hit Lk.isNum (k :: r) with
    | nil =>
      rw [hh] at hp
      obtain rfl := hp
      have HH := Lib.hid hh
      clear hh
      go_wp2
      go_ret
      exact ⟨by rw [codeOf_nil HH.out]; rfl, HB.out.alloc HB.out.size _⟩
    | cons k' r' =>
      rw [hh] at hp
      obtain ⟨u, hu, rfl⟩ := hp
      obtain ⟨e, rfl, rfl, rfl⟩ := inv84 hu
      have HH := Lib.hid hh
      clear hh hu
      go_wp2
      go_ret
      exact ⟨by rw [codeOf_num HH.out]; rfl, HB.out.alloc HB.out.size _⟩

set_option maxRecDepth 100000 in
set_option maxHeartbeats 1000000 in
theorem place_any {w W : World} {c : List Lk} {v : Value} (hG : Glob w) (h : ErrIs w c v) (hn : c.length < 1000) (hW : Below w.heap.size w W) :
    Calls Tryd.prog 20 #[v] W fun e w' => e = .returned (.int .i64 (placeOf c)) ∧ Below W.heap.size W w' := by
  have H1 := Lib.hid (find_plc hG h hn hW)
  have HW := Lib.hid hW
  clear h hG hn hW
  go_enter Tryd.func20, Tryd.ntmps20
  go_wp2_with fail
  refine (H1.out).mono ?_
  rintro e w1 ⟨hb, hp⟩
  have HB := Lib.hid hb
  clear hb
  cases hh : hit Lk.isPlc c with
  | nil =>
    rw [hh] at hp
    obtain rfl := hp
    have HH := Lib.hid hh
    clear hh
    go_wp2
    go_ret
    exact ⟨by unfold placeOf; rw [HH.out]; rfl, HB.out⟩
  | cons k' r' =>
    rw [hh] at hp
    obtain ⟨u, hu, rfl⟩ := hp
    obtain ⟨p, b, x, rfl, rfl, hbb, hx⟩ := inv87 hu
    have hb1 := ((HW.out.trans (HB.out.mono HW.out.size)).block b (ErrIs.lt hbb)).trans hbb
    have c0 := cell_of_row w1 b 0 _ _ _ hb1
    have c1 := cell_of_row w1 b 1 _ _ _ hb1
    simp at c0 c1
    have HH := Lib.hid hh
    clear hh hu hbb hx hb1
    go_wp2
    go_ret
    exact ⟨by unfold placeOf; rw [HH.out]; rfl, HB.out⟩

set_option maxRecDepth 100000 in
set_option maxHeartbeats 1000000 in
theorem limit_any {w W : World} {c : List Lk} {v : Value} (hG : Glob w) (h : ErrIs w c v) (hn : c.length < 1000) (hW : Below w.heap.size w W) :
    Calls Tryd.prog 16 #[v] W fun e w' => e = .returned (.tuple #[.int .i64 (limitOf c).1, .int .i64 (limitOf c).2.1, .bool (limitOf c).2.2]) ∧ Below W.heap.size W w' := by
  have H1 := Lib.hid (find_bnd hG h hn hW)
  have HW := Lib.hid hW
  clear h hG hn hW
  go_enter Tryd.func16, Tryd.ntmps16
  go_wp2_with fail
  refine (H1.out).mono ?_
  rintro e w1 ⟨hb, hp⟩
  have HB := Lib.hid hb
  clear hb
  cases hh : hit Lk.isBnd c with
  | nil =>
    rw [hh] at hp
    obtain rfl := hp
    have HH := Lib.hid hh
    clear hh
    go_wp2
    go_ret3
    exact ⟨by unfold limitOf; rw [HH.out]; rfl, HB.out⟩
  | cons k' r' =>
    rw [hh] at hp
    obtain ⟨u, hu, rfl⟩ := hp
    obtain ⟨l, g, b, x, rfl, rfl, hbb, hx⟩ := inv76 hu
    have hb1 := ((HW.out.trans (HB.out.mono HW.out.size)).block b (ErrIs.lt hbb)).trans hbb
    have c0 := cell_of_row w1 b 0 _ _ _ hb1
    have c1 := cell_of_row w1 b 1 _ _ _ hb1
    have c2 := cell_of_row w1 b 2 _ _ _ hb1
    simp at c0 c1 c2
    have HH := Lib.hid hh
    clear hh hu hbb hx hb1
    go_wp2
    go_quiet (fail)
    go_wp2
    go_ret3
    exact ⟨by unfold limitOf; rw [HH.out]; rfl, below_drewN HB.out _⟩
end Go.Proofs.YtakdhhapckcnaaaDoor
