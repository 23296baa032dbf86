/- fault.ask at every chain, for each of the four kinds. fault.find, fault.Code, fault.Place and fault.Limit at every chain. fault.At, fault.In, fault.Bound, and the functions wrapped and made of the law file, at every chain and links. -/
import Derived.Test.YtmchmlkbpocboaaGreatDoorZEoC
import Derived.Deep.QuietTactic
import Derived.BigQuiet
set_option linter.unusedSimpArgs false
set_option linter.unusedVariables false
namespace Go.Proofs.YtmchmlkbpocboaaGreatDoor
open Go.RowKit

theorem Only.below_new {bt : Nat} {W W2 w1 : World} (hb : Below W.heap.size W W2) (hbt : W.heap.size ≤ bt) (h : Only bt W2 w1) : Below W.heap.size W w1 :=
  ⟨h.os.trans hb.os, h.tape.trans hb.tape, h.output.trans hb.output, Nat.le_trans hb.size h.size, fun k hk => (h.block k (Nat.lt_of_lt_of_le hk hb.size) (by omega)).trans (hb.block k hk)⟩
theorem two_cells {w1 : World} {a b : Nat} (hab : a ≠ b) {x y : Value} (x' y' : Value) (ha : w1.cell? ⟨a, 0, none⟩ = some x) (hb : w1.cell? ⟨b, 0, none⟩ = some y) :
    ((w1.setCell ⟨a, 0, none⟩ x').setCell ⟨b, 0, none⟩ y').cell? ⟨a, 0, none⟩ = some x' ∧ ((w1.setCell ⟨a, 0, none⟩ x').setCell ⟨b, 0, none⟩ y').cell? ⟨b, 0, none⟩ = some y' := by
  have hne : (⟨a, 0, none⟩ : Addr) ≠ ⟨b, 0, none⟩ := fun h => by injection h; exact hab ‹_›
  exact ⟨(World.cell?_setCell_other _ _ _ _ (Ne.symm hne)).trans (World.cell?_setCell_same _ _ _ ha), World.cell?_setCell_same _ _ _ ((World.cell?_setCell_other _ _ _ _ hne).trans hb)⟩
/-- What ask and find answer. -/
def AskPost (q : Lk → Bool) (c : List Lk) (w W : World) (ET : TypeId) (zero : Value) (e : Ending) (w' : World) : Prop :=
  Below W.heap.size W w' ∧
  match hit q c with
  | [] => e = .returned (.tuple #[zero, .bool false])
  | k :: r => ∃ u, ErrIs w (k :: r) (.iface ET u) ∧ e = .returned (.tuple #[u, .bool true])

theorem inv84 {w : World} {k : Lk} {r : List Lk} {u : Value} (h : ErrIs w (k :: r) (.iface 121 u)) : ∃ e, k = .num e ∧ r = [] ∧ u = .agg #[.int .i64 e] := by
  cases k with
  | num e => obtain ⟨rfl, h⟩ := h; injection h with _ h; exact ⟨e, rfl, rfl, h⟩
  | nam p => obtain ⟨_, b, x, h, _⟩ := h; injection h with h _; exact absurd h (by decide)
  | bnd l g => obtain ⟨_, b, x, h, _⟩ := h; injection h with h _; exact absurd h (by decide)
theorem inv94 {w : World} {k : Lk} {r : List Lk} {u : Value} (h : ErrIs w (k :: r) (.iface 177 u)) : ∃ p b x, k = .nam p ∧ u = .pointer (some ⟨b, 0, none⟩) ∧ w.heap[b]? = some (.cells #[x, .string p] 179 (0, 0)) ∧ ErrIs w r x := by
  cases k with
  | num e => obtain ⟨rfl, h⟩ := h; injection h with h _; exact absurd h (by decide)
  | nam p => obtain ⟨_, b, x, h, hb, hx⟩ := h; injection h with _ h; exact ⟨p, b, x, rfl, h, hb, hx⟩
  | bnd l g => obtain ⟨_, b, x, h, _⟩ := h; injection h with h _; exact absurd h (by decide)
theorem inv76 {w : World} {k : Lk} {r : List Lk} {u : Value} (h : ErrIs w (k :: r) (.iface 172 u)) : ∃ l g b x, k = .bnd l g ∧ u = .pointer (some ⟨b, 0, none⟩) ∧ w.heap[b]? = some (.cells #[x, .int .i64 l, .int .i64 g] 176 (0, 0)) ∧ ErrIs w r x := by
  cases k with
  | num e => obtain ⟨rfl, h⟩ := h; injection h with h _; exact absurd h (by decide)
  | nam p => obtain ⟨_, b, x, h, _⟩ := h; injection h with h _; exact absurd h (by decide)
  | bnd l g => obtain ⟨_, b, x, h, hb, hx⟩ := h; injection h with _ h; exact ⟨l, g, b, x, rfl, h, hb, hx⟩
theorem heap_size_alloc_cells (w : World) (cs : Array Value) (t : TypeId) : (w.alloc (.cells cs t)).heap.size = w.heap.size + 1 := by simp
/-- No number of the chain is 0. -/
def NumOk (c : List Lk) : Prop := ∀ e, Lk.num e ∈ c → e ≠ 0
theorem hit_mem {q : Lk → Bool} {c : List Lk} {k : Lk} {r : List Lk} (h : hit q c = k :: r) : k ∈ c ∧ q k = true := by
  induction c with
  | nil => cases h
  | cons x l ih =>
    unfold hit at h
    cases hq : q x with
    | true => rw [hq] at h; injection h with h1 h2; subst h1; exact ⟨List.mem_cons_self, hq⟩
    | false => rw [hq] at h; exact ⟨List.mem_cons_of_mem _ (ih h).1, (ih h).2⟩


theorem idle_num (a b c : Addr) (w : World) :
    CallsD Tryz.prog 125 #[.pointer (some a), .pointer (some b), .pointer (some c)] .returning w fun e u' w' => e = .returned (.tuple #[]) ∧ u' = .returning ∧ w' = w := by
  refine callsD_of_wpS Tryz.func125 rfl fun c₀ cs hu => ?_
  apply wpS_seq
  apply wpS_region
  simp [wpOpsS, go_sem, recoverD, hu, Tryz.ntmps125, Exit.thenS]
  refine wpS_cond (t := false) (by simp [Act.eval, Array.replicate]) ?_
  simp only [Bool.false_eq_true, if_false]
  refine wpS_of_wp (wp_skip ?_)
  cases c₀
  simp_all [bodyPostS, results, Tryz.results125]

set_option maxRecDepth 100000 in
set_option maxHeartbeats 1000000 in
theorem ask_num {w W : World} {c : List Lk} {v : Value} (hG : Glob w) (h : ErrIs w c v) (hz : NumOk c) (hW : Below w.heap.size w W) :
    Calls Tryz.prog 101 #[v] W (AskPost Lk.isNum c w W 121 (.agg #[.int .i64 0])) := by
  have hmf : ∀ (fn : Fn) (first cap : Array Value) (w : World), (Instr.makeFunc fn first cap).run Tryz.prog w = .ok (.func fn first cap) w := fun _ _ _ _ => rfl
  have hb1 : Below W.heap.size W (((W.alloc (.cells #[(.int .i64 0)] 121)).alloc (.cells #[.bool false] 4)).alloc (.cells #[(.int .i64 0)] 121)) :=
    (((Below.refl _ _).alloc (Nat.le_refl _) _).alloc (by simp) _).alloc (by simp; omega) _
  have HA := Lib.hid (errAs_num (bt := W.heap.size) hG h (hW.trans (hb1.mono hW.size)) (block_alloc (block_alloc (heap_alloc_new W _))))
  have HB1 := Lib.hid hb1
  have HE := Lib.hid h
  clear hb1 h hW hG
  go_enter_defers Tryz.func101, Tryz.ntmps101
  go_wp2_with fail
  refine (HA.out).mono ?_
  rintro e w1 ⟨ho, hp⟩
  have b1 : w1.heap[W.heap.size + 1]? = some (.cells #[.bool false] 4 (0, 0)) := (ho.block _ (by simp) (by omega)).trans (block_alloc (by rw [← heap_size_alloc_cells W #[(.int .i64 0)] 121]; exact heap_alloc_new _ _))
  have b2 : w1.heap[W.heap.size + 1 + 1]? = some (.cells #[(.int .i64 0)] 121 (0, 0)) := (ho.block _ (by simp) (by omega)).trans (by rw [← heap_size_alloc_cells W #[(.int .i64 0)] 121, ← heap_size_alloc_cells _ #[.bool false] 4]; exact heap_alloc_new _ _)
  have c1 := cell_of_row w1 (W.heap.size + 1) 0 _ _ _ b1
  have c2 := cell_of_row w1 (W.heap.size + 1 + 1) 0 _ _ _ b2
  have f1 := free0 b1 0
  have f2 := free0 b2 0
  simp at c1 c2
  have HO := Lib.hid ho
  clear ho b1 b2
  cases hh : hit Lk.isNum c with
  | nil =>
    rw [hh] at hp
    obtain ⟨rfl, hb⟩ := hp
    have c0 := cell_of_row w1 W.heap.size 0 _ _ _ hb
    have f0 := free0 hb 0
    simp at c0
    have HH := Lib.hid hh
    clear hb hh
    go_wp2
    refine leaves_cons (f := 125) (args := #[.pointer (some ⟨W.heap.size + 1 + 1, 0, none⟩), .pointer (some ⟨W.heap.size, 0, none⟩), .pointer (some ⟨W.heap.size + 1, 0, none⟩)]) (by simp) (by simp [go_sem]) ?_
    refine (idle_num _ _ _ _).mono ?_
    rintro e u' w'' ⟨rfl, rfl, rfl⟩
    refine ⟨_, ?_, ((Only.below_new HB1.out (Nat.le_refl _) HO.out).setCell (Nat.le_refl _) _).setCell (by simp) _, by rw [HH.out]⟩
    simp [results, Tryz.results101, go_sem, (two_cells (Nat.ne_of_lt (Nat.lt_succ_self W.heap.size)) _ _ c0 c1).1, (two_cells (Nat.ne_of_lt (Nat.lt_succ_self W.heap.size)) _ _ c0 c1).2]
  | cons k r =>
    rw [hh] at hp
    obtain ⟨rfl, u, y, hu, hy, hb⟩ := hp
    obtain ⟨e, rfl, rfl, rfl⟩ := inv84 hu
    have he0 : e ≠ 0 := hz e (hit_mem hh).1
    have heq : (e == 0) = false := beq_eq_false_iff_ne.2 he0
    clear he0
    simp [Value.cells] at hy
    subst hy
    have c0 := cell_of_row w1 W.heap.size 0 _ _ _ hb
    have f0 := free0 hb 0
    simp at c0
    have HH := Lib.hid hh
    have HU := Lib.hid hu
    clear hb hh hu
    go_wp2
    refine leaves_cons (f := 125) (args := #[.pointer (some ⟨W.heap.size + 1 + 1, 0, none⟩), .pointer (some ⟨W.heap.size, 0, none⟩), .pointer (some ⟨W.heap.size + 1, 0, none⟩)]) (by simp) (by simp [go_sem]) ?_
    refine (idle_num _ _ _ _).mono ?_
    rintro e u' w'' ⟨rfl, rfl, rfl⟩
    refine ⟨_, ?_, ((Only.below_new HB1.out (Nat.le_refl _) HO.out).setCell (Nat.le_refl _) _).setCell (by simp) _, by rw [HH.out]; exact ⟨_, HU.out, rfl⟩⟩
    simp [results, Tryz.results101, go_sem, (two_cells (Nat.ne_of_lt (Nat.lt_succ_self W.heap.size)) _ _ c0 c1).1, (two_cells (Nat.ne_of_lt (Nat.lt_succ_self W.heap.size)) _ _ c0 c1).2]


end Go.Proofs.YtmchmlkbpocboaaGreatDoor

namespace Go.Proofs.YtmchmlkbpocboaaGreatDoor
open Go.RowKit
def codeOf (c : List Lk) : Int := match c with
  | [] => 0
  | k :: r => match hit Lk.isNum (k :: r) with
    | .num e :: _ => e
    | _ => 2
theorem codeOf_nil {k : Lk} {r : List Lk} (h : hit Lk.isNum (k :: r) = []) : codeOf (k :: r) = 2 := by simp only [codeOf, h]
theorem codeOf_num {k : Lk} {r r' : List Lk} {e : Int} (h : hit Lk.isNum (k :: r) = .num e :: r') : codeOf (k :: r) = e := by simp only [codeOf, h]
def limitOf (c : List Lk) : Int × Int × Bool := match hit Lk.isBnd c with
  | .bnd l g :: _ => (l, g, true)
  | _ => (0, 0, false)

set_option maxRecDepth 100000 in
set_option maxHeartbeats 1000000 in
theorem find_num {w W : World} {c : List Lk} {v : Value} (hG : Glob w) (h : ErrIs w c v) (hz : NumOk c) (hn : c.length < 1000) (hW : Below w.heap.size w W) :
    Calls Tryz.prog 72 #[v] W (AskPost Lk.isNum c w W 121 (.agg #[.int .i64 0])) := by
  have hb1 : Below W.heap.size W (W.alloc (.cells #[.int .i64 0] 121)) := (Below.refl _ _).alloc (Nat.le_refl _) _
  have H1 := Lib.hid (ends_any h (hW.trans (hb1.mono hW.size)) hn)
  have H2 := Lib.hid (fun (W' : World) (hb : Below W.heap.size W W') => ask_num hG h hz (hW.trans (hb.mono hW.size)))
  have HB0 := Lib.hid hb1
  clear h hG hn hW hz hb1
  go_enter Tryz.func72, Tryz.ntmps72
  go_wp2_with fail
  refine (H1.out).mono ?_
  rintro e w1 ⟨rfl, hb⟩
  have c1 := new_cell hb
  have f1 := new_free hb
  have hb1 := HB0.out.trans (hb.mono (by simp))
  have H3 := Lib.hid (H2.out w1 hb1)
  have HB := Lib.hid hb1
  have hlt : W.heap.size < w1.heap.size := by have := hb.size; simp at this; omega
  clear hb H2 hb1
  go_wp2_with fail
  refine (H3.out).mono ?_
  rintro e w2 ⟨hb2, hp⟩
  have c2 := (hb2.cell (p := ⟨W.heap.size, 0, none⟩) hlt).trans c1
  have f2 := (hb2.frozen (p := ⟨W.heap.size, 0, none⟩) hlt).trans f1
  have HB2 := Lib.hid hb2
  clear hb2 c1 f1
  cases hh : hit Lk.isNum c with
  | nil =>
    rw [hh] at hp
    obtain rfl := hp
    have HH := Lib.hid hh
    clear hh
    go_wp2
    refine bodyPost_ret (v := .tuple #[.agg #[.int .i64 0], .bool false]) (by simp [results, Tryz.results72, go_sem, c2]) rfl ⟨(HB.out.trans (HB2.out.mono HB.out.size)).setCell (Nat.le_refl _) _, by rw [HH.out]⟩
  | cons k r =>
    rw [hh] at hp
    obtain ⟨u, hu, rfl⟩ := hp
    obtain ⟨e, rfl, rfl, rfl⟩ := inv84 hu
    have HH := Lib.hid hh
    have HU := Lib.hid hu
    clear hh hu
    go_wp2
    refine bodyPost_ret (v := .tuple #[.agg #[.int .i64 e], .bool true]) (by simp [results, Tryz.results72, go_sem, c2]) rfl ⟨(HB.out.trans (HB2.out.mono HB.out.size)).setCell (Nat.le_refl _) _, by rw [HH.out]; exact ⟨_, HU.out, rfl⟩⟩

set_option maxRecDepth 100000 in
set_option maxHeartbeats 1000000 in
theorem code_any {w W : World} {c : List Lk} {v : Value} (hG : Glob w) (h : ErrIs w c v) (hz : NumOk c) (hn : c.length < 1000) (hW : Below w.heap.size w W) :
    Calls Tryz.prog 49 #[v] W fun e w' => e = .returned (.int .i64 (codeOf c)) ∧ Below W.heap.size W w' := by
  have H1 := Lib.hid (find_num hG h hz hn hW)
  cases c with
  | nil =>
    obtain rfl : v = .nilIface := h
    go_enter Tryz.func49, Tryz.ntmps49
    go_wp2
    go_ret
    exact ⟨rfl, Below.refl _ _⟩
  | cons k r =>
    obtain ⟨t, u, rfl⟩ := h.form1
    clear h hG hn hW hz
    go_enter Tryz.func49, Tryz.ntmps49
    go_wp2_with fail
    refine (H1.out).mono ?_
    rintro e w1 ⟨hb, hp⟩
    have HB := Lib.hid hb
    clear hb
    cases hh : hit Lk.isNum (k :: r) with
    | nil =>
      rw [hh] at hp
      obtain rfl := hp
      have HH := Lib.hid hh
      clear hh
      go_wp2
      go_ret
      exact ⟨by rw [codeOf_nil HH.out]; rfl, HB.out.alloc HB.out.size _⟩
    | cons k' r' =>
      rw [hh] at hp
      obtain ⟨u, hu, rfl⟩ := hp
      obtain ⟨e, rfl, rfl, rfl⟩ := inv84 hu
      have HH := Lib.hid hh
      clear hh hu
      go_wp2
      go_ret
      exact ⟨by rw [codeOf_num HH.out]; rfl, HB.out.alloc HB.out.size _⟩

end Go.Proofs.YtmchmlkbpocboaaGreatDoor

namespace Go.Proofs.YtmchmlkbpocboaaGreatDoor
open Go.RowKit
set_option maxHeartbeats 400000 in
theorem new_zero (w : World) : Calls Tryz.prog 103 #[.int .i64 0] w fun e w' => e = .returned .nilIface ∧ w = w' := by
  go_enter Tryz.func103, Tryz.ntmps103
  go_wp2
  go_ret
  exact ⟨rfl, rfl⟩
set_option maxHeartbeats 400000 in
theorem new_num (n : Int) (hn : n ≠ 0) (w : World) : Calls Tryz.prog 103 #[.int .i64 n] w fun e w' => e = .returned (.iface 121 (.agg #[.int .i64 n])) ∧ w = w' := by
  have h0 : (n == 0) = false := beq_eq_false_iff_ne.2 hn
  go_enter Tryz.func103, Tryz.ntmps103
  go_wp2
  go_ret
  exact ⟨rfl, rfl⟩

def onto (k : Lk) : List Lk → List Lk
  | [] => []
  | k' :: r => k :: k' :: r
def newL (e : Int) : List Lk := if e = 0 then [] else [.num e]
/-! New, At, In, Bound -/
set_option maxHeartbeats 400000 in
theorem in_nil (s : ByteArray) (w : World) : Calls Tryz.prog 104 #[.string s, .nilIface] w fun e w' => e = .returned .nilIface ∧ w = w' := by
  go_enter Tryz.func104, Tryz.ntmps104
  go_wp2
  go_ret
  exact ⟨rfl, rfl⟩
set_option maxHeartbeats 400000 in
theorem in_some (s : ByteArray) (t : TypeId) (u : Value) (w : World) : Calls Tryz.prog 104 #[.string s, .iface t u] w fun e w' => e = .returned (.iface 177 (.pointer (some ⟨w.heap.size, 0, none⟩))) ∧ w.alloc (.cells #[.iface t u, .string s] 179) = w' := by
  go_enter Tryz.func104, Tryz.ntmps104
  go_wp2
  go_ret
  exact ⟨rfl, rfl⟩
set_option maxHeartbeats 400000 in
theorem bound_nil (l g : Int) (w : World) : Calls Tryz.prog 102 #[.int .i64 l, .int .i64 g, .nilIface] w fun e w' => e = .returned .nilIface ∧ w = w' := by
  go_enter Tryz.func102, Tryz.ntmps102
  go_wp2
  go_ret
  exact ⟨rfl, rfl⟩
set_option maxHeartbeats 400000 in
theorem bound_some (l g : Int) (t : TypeId) (u : Value) (w : World) : Calls Tryz.prog 102 #[.int .i64 l, .int .i64 g, .iface t u] w fun e w' => e = .returned (.iface 172 (.pointer (some ⟨w.heap.size, 0, none⟩))) ∧ w.alloc (.cells #[.iface t u, .int .i64 l, .int .i64 g] 176) = w' := by
  go_enter Tryz.func102, Tryz.ntmps102
  go_wp2
  go_ret
  exact ⟨rfl, rfl⟩

def MadePost (c : List Lk) (w : World) (e : Ending) (w' : World) : Prop := ∃ v, e = .returned v ∧ ErrIs w' c v ∧ Below w.heap.size w w'
theorem in_any {w : World} (p : ByteArray) {c : List Lk} {v : Value} (h : ErrIs w c v) : Calls Tryz.prog 104 #[.string p, v] w (MadePost (onto (.nam p) c) w) := by
  cases c with
  | nil =>
    obtain rfl : v = .nilIface := h
    exact (in_nil p w).mono fun e w' ⟨he, hw⟩ => ⟨_, he, rfl, hw ▸ Below.refl _ _⟩
  | cons k r =>
    obtain ⟨t, u, rfl⟩ := h.form1
    refine (in_some p t u w).mono fun e w' ⟨he, hw⟩ => ?_
    subst hw
    have hb : Below w.heap.size w (w.alloc (.cells #[.iface t u, .string p] 179)) := (Below.refl _ _).alloc (Nat.le_refl _) _
    exact ⟨_, he, ⟨by simp, _, _, rfl, heap_alloc_new w _, h.below hb⟩, hb⟩
theorem bound_any {w : World} (l g : Int) {c : List Lk} {v : Value} (h : ErrIs w c v) : Calls Tryz.prog 102 #[.int .i64 l, .int .i64 g, v] w (MadePost (onto (.bnd l g) c) w) := by
  cases c with
  | nil =>
    obtain rfl : v = .nilIface := h
    exact (bound_nil l g w).mono fun e w' ⟨he, hw⟩ => ⟨_, he, rfl, hw ▸ Below.refl _ _⟩
  | cons k r =>
    obtain ⟨t, u, rfl⟩ := h.form1
    refine (bound_some l g t u w).mono fun e w' ⟨he, hw⟩ => ?_
    subst hw
    have hb : Below w.heap.size w (w.alloc (.cells #[.iface t u, .int .i64 l, .int .i64 g] 176)) := (Below.refl _ _).alloc (Nat.le_refl _) _
    exact ⟨_, he, ⟨by simp, _, _, rfl, heap_alloc_new w _, h.below hb⟩, hb⟩
theorem new_any (n : Int) (w : World) : Calls Tryz.prog 103 #[.int .i64 n] w (MadePost (newL n) w) := by
  by_cases h : n = 0
  · subst h
    exact (new_zero w).mono fun e w' ⟨he, hw⟩ => ⟨_, he, rfl, hw ▸ Below.refl _ _⟩
  · unfold newL
    rw [if_neg h]
    exact (new_num n h w).mono fun e w' ⟨he, hw⟩ => ⟨_, he, ⟨rfl, rfl⟩, hw ▸ Below.refl _ _⟩

end Go.Proofs.YtmchmlkbpocboaaGreatDoor
