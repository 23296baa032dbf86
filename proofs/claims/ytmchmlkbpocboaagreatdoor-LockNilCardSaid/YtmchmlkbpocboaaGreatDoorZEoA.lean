/- Contracts of errors.Unwrap, fault.next, fault.Depth and fault.ends at every chain of faults that lies in memory. -/
import Derived.Test.YtmchmlkbpocboaaGreatDoorProg
import Derived.Test.YtmchmlkbpocboaaGreatDoorZBasA
import Derived.WalkKit
import Derived.WalkSpells
import Derived.WalkLawsBesides
import Derived.Stop.Asserts
import Derived.Defers
import Derived.Recover
import Derived.Lib.Hide
set_option linter.unusedSimpArgs false
set_option linter.unusedVariables false
namespace Go.Proofs.YtmchmlkbpocboaaGreatDoor
open Go.RowKit

theorem i94 : (Tryz.prog.info? 177).map (fun i => (i.methods.find? (·.name == "Unwrap")).map (fun m => (m.path.toList, m.func))) = some (some ([⟨179, 0, true⟩], some (168, false))) := by kernel_rfl
theorem i76 : (Tryz.prog.info? 172).map (fun i => (i.methods.find? (·.name == "Unwrap")).map (fun m => (m.path.toList, m.func))) = some (some ([⟨176, 0, true⟩], some (168, false))) := by kernel_rfl
theorem sz80 (w : World) : (sizeOf 174).run Tryz.prog w = .ok 1 w := by kernel_rfl
theorem ag80 (w : World) : (isAgg 174).run Tryz.prog w = .ok true w := by kernel_rfl

theorem load_link (b : Nat) (v : Value) (w : World) (h : w.cell? ⟨b, 0, none⟩ = some v) : (loadVar 174 ⟨b, 0, none⟩).run Tryz.prog w = .ok (.agg #[v]) w := by
  simp [loadVar, ag80, sz80, loadCells, loadCellsFrom, go_sem, h, Addr.add]

theorem method_unwrap1 (fuel : Nat) {t st : TypeId} {fs : Array Field} {f : Field}
    (hi : (Tryz.prog.info? t).map (fun i => (i.methods.find? (·.name == "Unwrap")).map (fun m => (m.path.toList, m.func))) = some (some ([⟨st, 0, true⟩], some (168, false))))
    (hs : Tryz.prog.underlying st = some (.struct fs)) (hf : fs[0]? = some f) (hft : f.type = 174) (hfo : f.offset = 0)
    (b : Nat) (v : Value) (w : World) (h : w.cell? ⟨b, 0, none⟩ = some v) :
    (method (fuel + 1) t (.pointer (some ⟨b, 0, none⟩)) "Unwrap").run Tryz.prog w = .ok (168, .agg #[v]) w := by
  obtain ⟨i, hi, hm⟩ := Option.map_eq_some_iff.1 hi
  obtain ⟨m, hm, he⟩ := Option.map_eq_some_iff.1 hm
  obtain ⟨hp, hfn⟩ := Prod.mk.inj he
  have hne : m.path.isEmpty = false := by
    rw [← Array.isEmpty_toList, hp]; rfl
  have hl := load_link b v w h
  rw [method]
  simp [typeInfo, hi, hm, hp, hfn, follow, run_underlying hs, hf, Place.get, asAddr, fieldPlace, hft, hfo, sz80, Addr.add, receiverAt, hne, run_underlying Tryz.underlying174, hl]
theorem m94u (b : Nat) (v : Value) (w : World) (h : w.cell? ⟨b, 0, none⟩ = some v) : (method 347 177 (.pointer (some ⟨b, 0, none⟩)) "Unwrap").run Tryz.prog w = .ok (168, .agg #[v]) w :=
  method_unwrap1 346 i94 Tryz.underlying179 rfl rfl rfl b v w h
theorem m76u (b : Nat) (v : Value) (w : World) (h : w.cell? ⟨b, 0, none⟩ = some v) : (method 347 172 (.pointer (some ⟨b, 0, none⟩)) "Unwrap").run Tryz.prog w = .ok (168, .agg #[v]) w :=
  method_unwrap1 346 i76 Tryz.underlying176 rfl rfl rfl b v w h

theorem hasU94 (v : Value) (xT : TypeId) (w : World) : (Instr.typeAssert (.iface 177 v) xT 211 true).run Tryz.prog w = .ok (.tuple #[.iface 177 v, .bool true]) w := run_typeAssert_hasB Tryz.underlying211 (by kernel_rfl) v xT w
theorem hasU76 (v : Value) (xT : TypeId) (w : World) : (Instr.typeAssert (.iface 172 v) xT 211 true).run Tryz.prog w = .ok (.tuple #[.iface 172 v, .bool true]) w := run_typeAssert_hasB Tryz.underlying211 (by kernel_rfl) v xT w
theorem noU84 (v : Value) (xT : TypeId) (w : World) : (Instr.typeAssert (.iface 121 v) xT 211 true).run Tryz.prog w = .ok (.tuple #[.nilIface, .bool false]) w := run_typeAssert_lacksB Tryz.underlying211 (by kernel_rfl) (by kernel_rfl) v xT w
theorem noUs84 (v : Value) (xT : TypeId) (w : World) : (Instr.typeAssert (.iface 121 v) xT 213 true).run Tryz.prog w = .ok (.tuple #[.nilIface, .bool false]) w := run_typeAssert_lacksB Tryz.underlying213 (by kernel_rfl) (by kernel_rfl) v xT w
theorem noAs84 (v : Value) (xT : TypeId) (w : World) : (Instr.typeAssert (.iface 121 v) xT 208 true).run Tryz.prog w = .ok (.tuple #[.nilIface, .bool false]) w := run_typeAssert_lacksB Tryz.underlying208 (by kernel_rfl) (by kernel_rfl) v xT w
theorem noAs94 (v : Value) (xT : TypeId) (w : World) : (Instr.typeAssert (.iface 177 v) xT 208 true).run Tryz.prog w = .ok (.tuple #[.nilIface, .bool false]) w := run_typeAssert_lacksB Tryz.underlying208 (by kernel_rfl) (by kernel_rfl) v xT w
theorem noAs76 (v : Value) (xT : TypeId) (w : World) : (Instr.typeAssert (.iface 172 v) xT 208 true).run Tryz.prog w = .ok (.tuple #[.nilIface, .bool false]) w := run_typeAssert_lacksB Tryz.underlying208 (by kernel_rfl) (by kernel_rfl) v xT w

/-- A link of a chain. -/
inductive Lk where
  | num (e : Int)
  | nam (s : ByteArray)
  | bnd (l g : Int)

def WrapIs (w : World) (t el : TypeId) (cs : Value → Array Value) (inner : Value → Prop) (v : Value) : Prop :=
  ∃ b x, v = .iface t (.pointer (some ⟨b, 0, none⟩)) ∧ w.heap[b]? = some (.cells (cs x) el (0, 0)) ∧ inner x

/-- The error value v is the chain c in the world w. -/
def ErrIs (w : World) : List Lk → Value → Prop
  | [], v => v = .nilIface
  | .num e :: r, v => r = [] ∧ v = .iface 121 (.agg #[.int .i64 e])
  | .nam s :: r, v => r ≠ [] ∧ WrapIs w 177 179 (fun x => #[x, .string s]) (ErrIs w r) v
  | .bnd l g :: r, v => r ≠ [] ∧ WrapIs w 172 176 (fun x => #[x, .int .i64 l, .int .i64 g]) (ErrIs w r) v

theorem WrapIs.keep {w w' : World} {t el : TypeId} {cs : Value → Array Value} {p q : Value → Prop} {v : Value} (hk : ∀ b, b < w.heap.size → w'.heap[b]? = w.heap[b]?) (hpq : ∀ x, p x → q x) (h : WrapIs w t el cs p v) : WrapIs w' t el cs q v := by
  obtain ⟨b, x, rfl, hb, hx⟩ := h
  refine ⟨b, x, rfl, ?_, hpq x hx⟩
  have hlt : b < w.heap.size := by
    rcases Nat.lt_or_ge b w.heap.size with h | h
    · exact h
    · rw [Array.getElem?_eq_none h] at hb; cases hb
  rw [hk b hlt, hb]

theorem ErrIs.keep {w w' : World} (hk : ∀ b, b < w.heap.size → w'.heap[b]? = w.heap[b]?) : ∀ (c : List Lk) (v : Value), ErrIs w c v → ErrIs w' c v
  | [], _, h => h
  | .num _ :: _, _, h => h
  | .nam _ :: r, _, h => ⟨h.1, h.2.keep hk (ErrIs.keep hk r)⟩
  | .bnd _ _ :: r, _, h => ⟨h.1, h.2.keep hk (ErrIs.keep hk r)⟩
theorem ErrIs.below {w w' : World} {c : List Lk} {v : Value} (h : ErrIs w c v) (hb : Below w.heap.size w w') : ErrIs w' c v := h.keep hb.block c v

theorem recover_idle (p : Addr) (w : World) :
    CallsD Tryz.prog 143 #[.pointer (some p)] .returning w fun e u' w' => e = .returned (.tuple #[]) ∧ u' = .returning ∧ w' = w := by
  refine callsD_of_wpS Tryz.func143 rfl fun c₀ cs hu => ?_
  apply wpS_seq
  apply wpS_region
  simp [wpOpsS, go_sem, recoverD, hu, Tryz.ntmps143, Exit.thenS]
  refine wpS_cond (t := false) (by simp [Act.eval, Array.replicate]) ?_
  simp only [Bool.false_eq_true, if_false]
  refine wpS_of_wp (wp_skip ?_)
  cases c₀
  simp_all [bodyPostS, results, Tryz.results143]

set_option maxHeartbeats 400000 in
theorem link_unwrap (v : Value) (w : World) :
    Calls Tryz.prog 168 #[.agg #[v]] w fun e w' => e = .returned v ∧ w' = w.alloc (.cells #[v] 174) := by
  go_enter Tryz.func168, Tryz.ntmps168
  go_wp2
  go_ret
  exact ⟨rfl, rfl⟩
set_option maxRecDepth 100000 in
set_option maxHeartbeats 400000 in
theorem unwrap_num (e : Int) (w : World) :
    Calls Tryz.prog 144 #[.iface 121 (.agg #[.int .i64 e])] w fun e w' => e = .returned (.nilIface) ∧ w' = w := by
  have h1 := noU84
  go_enter Tryz.func144, Tryz.ntmps144
  go_wp2
  go_ret
  exact ⟨rfl, rfl⟩
set_option maxRecDepth 100000 in
set_option maxHeartbeats 400000 in
theorem unwrap_nam (b : Nat) (v : Value) (w : World) (hc : w.cell? ⟨b, 0, none⟩ = some v) :
    Calls Tryz.prog 144 #[.iface 177 (.pointer (some ⟨b, 0, none⟩))] w fun e w' => e = .returned v ∧ w' = w.alloc (.cells #[v] 174) := by
  have h1 := hasU94
  have h2 := m94u b v w hc
  go_enter Tryz.func144, Tryz.ntmps144
  go_wp2_with (go_at_call 168; refine (link_unwrap _ _).mono ?_; rintro e w' ⟨rfl, rfl⟩)
  go_ret
  exact ⟨rfl, rfl⟩
set_option maxRecDepth 100000 in
set_option maxHeartbeats 400000 in
theorem unwrap_bnd (b : Nat) (v : Value) (w : World) (hc : w.cell? ⟨b, 0, none⟩ = some v) :
    Calls Tryz.prog 144 #[.iface 172 (.pointer (some ⟨b, 0, none⟩))] w fun e w' => e = .returned v ∧ w' = w.alloc (.cells #[v] 174) := by
  have h1 := hasU76
  have h2 := m76u b v w hc
  go_enter Tryz.func144, Tryz.ntmps144
  go_wp2_with (go_at_call 168; refine (link_unwrap _ _).mono ?_; rintro e w' ⟨rfl, rfl⟩)
  go_ret
  exact ⟨rfl, rfl⟩

theorem ErrIs.lt {w : World} {b : Nat} {o : Obj} (h : w.heap[b]? = some o) : b < w.heap.size := by
  rcases Nat.lt_or_ge b w.heap.size with h1 | h1
  · exact h1
  · rw [Array.getElem?_eq_none h1] at h; cases h
theorem cell0 {w W : World} (hW : Below w.heap.size w W) {b : Nat} {x : Value} {l : List Value} {t : TypeId} (h : w.heap[b]? = some (.cells ⟨x :: l⟩ t (0, 0))) : W.cell? ⟨b, 0, none⟩ = some x := by
  rw [cell_of_row W b 0 _ t (0, 0) ((hW.block b (ErrIs.lt h)).trans h)]; rfl
/-- errors.Unwrap of a chain that lies in w, called in a later world W. -/
def UnwrapPost (r : List Lk) (w W : World) (e : Ending) (w' : World) : Prop := ∃ x, e = .returned x ∧ ErrIs w r x ∧ Below W.heap.size W w'
theorem unwrap_any {w W : World} {k : Lk} {r : List Lk} {v : Value} (h : ErrIs w (k :: r) v) (hW : Below w.heap.size w W) : Calls Tryz.prog 144 #[v] W (UnwrapPost r w W) := by
  have hA : ∀ x, Below W.heap.size W (W.alloc (.cells #[x] 174)) := fun x => (Below.refl _ _).alloc (Nat.le_refl _) _
  cases k with
  | num e =>
    obtain ⟨rfl, rfl⟩ := h
    exact (unwrap_num e W).mono fun e w' ⟨he, hw⟩ => ⟨_, he, rfl, hw ▸ Below.refl _ _⟩
  | nam p =>
    obtain ⟨_, b, x, rfl, hb, hx⟩ := h
    exact (unwrap_nam b x W (cell0 hW hb)).mono fun e w' ⟨he, hw⟩ => ⟨_, he, hx, hw ▸ hA x⟩
  | bnd l g =>
    obtain ⟨_, b, x, rfl, hb, hx⟩ := h
    exact (unwrap_bnd b x W (cell0 hW hb)).mono fun e w' ⟨he, hw⟩ => ⟨_, he, hx, hw ▸ hA x⟩

theorem ErrIs.form {w : World} : ∀ {c : List Lk} {v : Value}, ErrIs w c v → v = .nilIface ∨ ∃ t u, v = .iface t u
  | [], _, h => .inl h
  | .num _ :: _, _, h => .inr ⟨_, _, h.2⟩
  | .nam _ :: _, _, ⟨_, _, _, h, _⟩ => .inr ⟨_, _, h⟩
  | .bnd _ _ :: _, _, ⟨_, _, _, h, _⟩ => .inr ⟨_, _, h⟩

theorem new_of_below {w w1 : World} {o : Obj} (hb : Below (w.heap.size + 1) (w.alloc o) w1) : w1.heap[w.heap.size]? = some o :=
  (hb.block w.heap.size (Nat.lt_succ_self _)).trans (heap_alloc_new w o)
theorem new_cell {w w1 : World} {x : Value} {t : TypeId} (hb : Below (w.alloc (.cells #[x] t)).heap.size (w.alloc (.cells #[x] t)) w1) : w1.cell? ⟨w.heap.size, 0, none⟩ = some x := by
  rw [cell_of_row w1 w.heap.size 0 _ _ _ (new_of_below (by simpa using hb))]; rfl
theorem new_free {w w1 : World} {x : Value} {t : TypeId} (hb : Below (w.alloc (.cells #[x] t)).heap.size (w.alloc (.cells #[x] t)) w1) : w1.frozen? ⟨w.heap.size, 0, none⟩ = false := by
  simp [World.frozen?, new_of_below (o := .cells #[x] t) (by simpa using hb)]
set_option maxRecDepth 100000 in
set_option maxHeartbeats 400000 in
theorem next_any {w W : World} {k : Lk} {r : List Lk} {v : Value} (h : ErrIs w (k :: r) v) (hW : Below w.heap.size w W) : Calls Tryz.prog 136 #[v] W (UnwrapPost r w W) := by
  have hmf : ∀ (fn : Fn) (first cap : Array Value) (w : World), (Instr.makeFunc fn first cap).run Tryz.prog w = .ok (.func fn first cap) w := fun _ _ _ _ => rfl
  have H0 := Lib.hid (unwrap_any h (hW.alloc hW.size (.cells #[.nilIface] 98)))
  clear h hW
  go_enter_defers Tryz.func136, Tryz.ntmps136
  go_wp2_with fail
  refine (H0.out).mono ?_
  rintro e w1 ⟨x, rfl, hx, hb⟩
  have hc := new_cell hb
  have hf := new_free hb
  rcases hx.form with rfl | ⟨t, u, rfl⟩
  all_goals
    go_wp2
    have hfin : ∀ y, Below W.heap.size W (w1.setCell ⟨W.heap.size, 0, none⟩ y) := fun y => (((Below.refl _ _).alloc (Nat.le_refl _) _).trans (hb.mono (by simp))).setCell (Nat.le_refl _) y
    refine leaves_cons (f := 143) (args := #[.pointer (some ⟨W.heap.size, 0, none⟩)]) (by simp) (by simp [go_sem]) ?_
    refine (recover_idle ⟨W.heap.size, 0, none⟩ _).mono ?_
    rintro e u' w'' ⟨rfl, rfl, rfl⟩
    refine ⟨_, ?_, _, rfl, hx, hfin _⟩
    simp [results, Tryz.results136, go_sem, hc]

def DepthPost (n : Nat) (W : World) (e : Ending) (w' : World) : Prop := e = .returned (.int .i64 (n : Int)) ∧ Below W.heap.size W w'
theorem neq_nil_iface (w : World) (t : TypeId) (u : Value) : (binOp .neq 98 (.iface t u) .nilIface).run Tryz.prog w = .ok (.bool true) w := by
  go_simp
theorem ErrIs.form1 {w : World} {k : Lk} {c : List Lk} {v : Value} (h : ErrIs w (k :: c) v) : ∃ t u, v = .iface t u := by
  cases k with
  | num e => exact ⟨_, _, h.2⟩
  | nam p => obtain ⟨_, b, x, h, _⟩ := h; exact ⟨_, _, h⟩
  | bnd l g => obtain ⟨_, b, x, h, _⟩ := h; exact ⟨_, _, h⟩
set_option maxRecDepth 100000 in
set_option maxHeartbeats 400000 in
theorem depth_any {w W : World} {c : List Lk} {v : Value} (h : ErrIs w c v) (hW : Below w.heap.size w W) (hn : c.length < 1000) : Calls Tryz.prog 124 #[v] W (DepthPost c.length W) := by
  have hwW : w.heap.size ≤ W.heap.size := hW.size
  go_enter Tryz.func124, Tryz.ntmps124
  go_wp2_with fail
  go_loopw [0, 3] (fun v n wr => ∃ r : List Lk, ∃ k : Nat, ErrIs w r v ∧ c.length = k + r.length ∧ n = .int .i64 k ∧ Below W.heap.size W wr) (fun _ n _ => 1000 - (intOf n).toNat)
  case atStart => exact ⟨c, 0, h, by simp, rfl, Below.refl _ _⟩
  case round =>
    clear h
    obtain ⟨r, k, hr, hlen, rfl, hb⟩ := hrel
    have hk : k < 1000 := by omega
    cases r with
    | nil =>
      obtain rfl : u0 = .nilIface := hr
      have hlen' : k = c.length := by simpa using hlen.symm
      have HL := Lib.hid hlen'
      clear hlen hlen'
      go_wp2
      go_ret
      exact ⟨by rw [← HL.out]; rfl, hb⟩
    | cons k0 r =>
      obtain ⟨t, u, rfl⟩ := hr.form1
      have hn1 : (k : Int) < 1048576 := by omega
      have H0 := Lib.hid (next_any hr (hW.trans (hb.mono hwW)))
      have HL := Lib.hid hlen
      clear hlen
      go_wp2_with (go_at_call 136; refine (H0.out).mono ?_; rintro e w1 ⟨x, rfl, hx, hb1⟩)
      go_roundw
      case rel => exact ⟨r, k + 1, hx, by rw [HL.out]; simp; omega, by go_num, hb.trans (hb1.mono hb.size)⟩
      case measure => simp [intOf]; omega
theorem ends_any {w W : World} {c : List Lk} {v : Value} (h : ErrIs w c v) (hW : Below w.heap.size w W) (hn : c.length < 1000) : Calls Tryz.prog 100 #[v] W fun e w' => e = .returned (.bool true) ∧ Below W.heap.size W w' := by
  have H0 := Lib.hid (depth_any h hW hn)
  have hn1 : (c.length : Int) < 1048576 := by omega
  clear h hW
  go_enter Tryz.func100, Tryz.ntmps100
  go_wp2_with (go_at_call 124; refine (H0.out).mono ?_; rintro e w1 ⟨rfl, hb⟩)
  go_ret
  exact ⟨rfl, hb⟩

end Go.Proofs.YtmchmlkbpocboaaGreatDoor
