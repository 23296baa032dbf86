/- fault.find, fault.Code, fault.Place and fault.Limit at every chain. -/
import Derived.Test.YtkkfgdibficifaaDoorZEoD
import Derived.Deep.QuietTactic
import Derived.BigQuiet
set_option linter.unusedSimpArgs false
set_option linter.unusedVariables false
namespace Go.Proofs.YtkkfgdibficifaaDoor
open Go.RowKit
def codeOf (c : List Lk) : Int := match c with
  | [] => 0
  | k :: r => match hit Lk.isNum (k :: r) with
    | .num e :: _ => e
    | _ => 2
theorem codeOf_nil {k : Lk} {r : List Lk} (h : hit Lk.isNum (k :: r) = []) : codeOf (k :: r) = 2 := by simp only [codeOf, h]
theorem codeOf_num {k : Lk} {r r' : List Lk} {e : Int} (h : hit Lk.isNum (k :: r) = .num e :: r') : codeOf (k :: r) = e := by simp only [codeOf, h]
def limitOf (c : List Lk) : Int × Int × Bool := match hit Lk.isBnd c with
  | .bnd l g :: _ => (l, g, true)
  | _ => (0, 0, false)

set_option maxRecDepth 100000 in
set_option maxHeartbeats 1000000 in
theorem find_num {w W : World} {c : List Lk} {v : Value} (hG : Glob w) (h : ErrIs w c v) (hz : NumOk c) (hn : c.length < 1000) (hW : Below w.heap.size w W) :
    Calls Tryd.prog 34 #[v] W (AskPost Lk.isNum c w W 75 (.agg #[.int .i64 0])) := by
  have hb1 : Below W.heap.size W (W.alloc (.cells #[.int .i64 0] 75)) := (Below.refl _ _).alloc (Nat.le_refl _) _
  have H1 := Lib.hid (ends_any h (hW.trans (hb1.mono hW.size)) hn)
  have H2 := Lib.hid (fun (W' : World) (hb : Below W.heap.size W W') => ask_num hG h hz (hW.trans (hb.mono hW.size)))
  have HB0 := Lib.hid hb1
  clear h hG hn hW hz hb1
  go_enter Tryd.func34, Tryd.ntmps34
  go_wp2_with fail
  refine (H1.out).mono ?_
  rintro e w1 ⟨rfl, hb⟩
  have c1 := new_cell hb
  have f1 := new_free hb
  have hb1 := HB0.out.trans (hb.mono (by simp))
  have H3 := Lib.hid (H2.out w1 hb1)
  have HB := Lib.hid hb1
  have hlt : W.heap.size < w1.heap.size := by have := hb.size; simp at this; omega
  clear hb H2 hb1
  go_wp2_with fail
  refine (H3.out).mono ?_
  rintro e w2 ⟨hb2, hp⟩
  have c2 := (hb2.cell (p := ⟨W.heap.size, 0, none⟩) hlt).trans c1
  have f2 := (hb2.frozen (p := ⟨W.heap.size, 0, none⟩) hlt).trans f1
  have HB2 := Lib.hid hb2
  clear hb2 c1 f1
  cases hh : hit Lk.isNum c with
  | nil =>
    rw [hh] at hp
    obtain rfl := hp
    have HH := Lib.hid hh
    clear hh
    go_wp2
    refine bodyPost_ret (v := .tuple #[.agg #[.int .i64 0], .bool false]) (by simp [results, Tryd.results34, go_sem, c2]) rfl ⟨(HB.out.trans (HB2.out.mono HB.out.size)).setCell (Nat.le_refl _) _, by rw [HH.out]⟩
  | cons k r =>
    rw [hh] at hp
    obtain ⟨u, hu, rfl⟩ := hp
    obtain ⟨e, rfl, rfl, rfl⟩ := inv84 hu
    have HH := Lib.hid hh
    have HU := Lib.hid hu
    clear hh hu
    go_wp2
    refine bodyPost_ret (v := .tuple #[.agg #[.int .i64 e], .bool true]) (by simp [results, Tryd.results34, go_sem, c2]) rfl ⟨(HB.out.trans (HB2.out.mono HB.out.size)).setCell (Nat.le_refl _) _, by rw [HH.out]; exact ⟨_, HU.out, rfl⟩⟩

set_option maxRecDepth 100000 in
set_option maxHeartbeats 1000000 in
theorem code_any {w W : World} {c : List Lk} {v : Value} (hG : Glob w) (h : ErrIs w c v) (hz : NumOk c) (hn : c.length < 1000) (hW : Below w.heap.size w W) :
    Calls Tryd.prog 21 #[v] W fun e w' => e = .returned (.int .i64 (codeOf c)) ∧ Below W.heap.size W w' := by
  have H1 := Lib.hid (find_num hG h hz hn hW)
  cases c with
  | nil =>
    obtain rfl : v = .nilIface := h
    go_enter Tryd.func21, Tryd.ntmps21
    go_wp2
    go_ret
    exact ⟨rfl, Below.refl _ _⟩
  | cons k r =>
    obtain ⟨t, u, rfl⟩ := h.form1
    clear h hG hn hW hz
    go_enter Tryd.func21, Tryd.ntmps21
    go_wp2_with fail
    refine (H1.out).mono ?_
    rintro e w1 ⟨hb, hp⟩
    have HB := Lib.hid hb
    clear hb
    cases hh : hit Lk.isNum (k :: r) with
    | nil =>
      rw [hh] at hp
      obtain rfl := hp
      have HH := Lib.hid hh
      clear hh
      go_wp2
      go_ret
      exact ⟨by rw [codeOf_nil HH.out]; rfl, HB.out.alloc HB.out.size _⟩
    | cons k' r' =>
      rw [hh] at hp
      obtain ⟨u, hu, rfl⟩ := hp
      obtain ⟨e, rfl, rfl, rfl⟩ := inv84 hu
      have HH := Lib.hid hh
      clear hh hu
      go_wp2
      go_ret
      exact ⟨by rw [codeOf_num HH.out]; rfl, HB.out.alloc HB.out.size _⟩

end Go.Proofs.YtkkfgdibficifaaDoor
