/- The net of packets in memory. The net: find, take. The net: take. The net: put. The net: a packet more; send. The net: Send. -/
import Derived.Test.YtfddlhcdlgdofaaGreatDoorZPosA
import Derived.Test.YtfddlhcdlgdofaaGreatDoorZBasB
import Derived.Test.YtfddlhcdlgdofaaGreatDoorZMecE
import Derived.Test.YtfddlhcdlgdofaaGreatDoorZMsgA
import Derived.Test.YtfddlhcdlgdofaaGreatDoorZFirA
set_option linter.unusedSimpArgs false
set_option linter.unusedVariables false
set_option linter.unnecessarySimpa false
namespace Go.Proofs.YtfddlhcdlgdofaaGreatDoor
open Go.RowKit Go.Shelf
open Go.Maps (Keyed)

/-- A packet: its bytes, site and wait; and where it lies. -/
structure Pk where
  bs : List UInt8
  site : Int
  waits : Int
  pb : Nat
  g : Nat
  cap : Nat
def Pk.v (e : Pk) : Value := .slice (some ⟨e.g, 0, none⟩) e.bs.length e.cap
def Pk.cells (e : Pk) : Array Value := #[e.v, .int .i64 e.site, .int .i64 e.waits]
def Pk.ptr (e : Pk) : Value := .pointer (some ⟨e.pb, 0, none⟩)
/-- A packet in plain words. -/
abbrev P3 := List UInt8 × Int × Int
def Pk.p (e : Pk) : P3 := (e.bs, e.site, e.waits)
abbrev ptrs (L : List Pk) : List Value := L.map Pk.ptr
/-- A net: its bound, the row of its packets, the sites that are cut off; ro tells what each of its blocks is for: 1 the net's own, 2 the map, 3 rows, 4 packets, 5 bytes. -/
structure NetAt (W : World) (b : Nat) (most : Int) (v : Value) (L : List Pk) (mp : Nat) (C : List MapEntry) (c : Nat) (ro : Nat → Nat) : Prop where
  head : W.heap[b]? = some (.cells #[.int .i64 most, v, .map (some mp)] 100 (0, 0))
  row : RowIs W 1 v L.length (ptrs L)
  pk : ∀ e ∈ L, W.heap[e.pb]? = some (.cells e.cells 125 (0, 0))
  by_ : ∀ e ∈ L, OwnC W 0 e.g e.cap e.bs
  few : L.length ≤ 1024 ∧ ∀ e ∈ L, e.bs ≠ [] ∧ e.bs.length ≤ 20000
  map : MapIs Tryz.prog 3 W mp C c
  rb : ro b = 1
  rm : ro mp = 2
  rr : ∀ k, v.ownBlock = some k → ro k = 3
  rp : ∀ e ∈ L, ro e.pb = 4 ∧ ro e.g = 5
  lt : ∀ k, ro k ≠ 0 → k < W.heap.size
  onep : ∀ (i j : Nat) (x y : Pk), L[i]? = some x → L[j]? = some y → x.pb = y.pb → i = j
  oneg : ∀ (i j : Nat) (x y : Pk), L[i]? = some x → L[j]? = some y → x.g = y.g → i = j
theorem OwnC.lower' {w : World} {B g cap : Nat} {l : List UInt8} (h : OwnC w B g cap l) : OwnC w 0 g cap l := ⟨Nat.zero_le _, h.lt, h.le, h.max, h.holds, h.there⟩
section
variable {W W' : World} {b : Nat} {most : Int} {v : Value} {L : List Pk} {mp : Nat} {C : List MapEntry} {c : Nat} {ro : Nat → Nat}
theorem NetAt.keep (h : NetAt W b most v L mp C c ro) {S : Nat → Prop} (ht : Touch S W W') (hS : ∀ k, S k → ro k = 0) : NetAt W' b most v L mp C c ro where
  head := (ht.block b (heap_lt h.head) (fun e => by have := hS b e; have := h.rb; omega)).trans h.head
  row := h.row.touch ht (fun g hg e => by have := hS g e; have := h.rr g hg; omega)
  pk := fun e he => (ht.block _ (heap_lt (h.pk e he)) (fun q => by have := hS _ q; have := (h.rp e he).1; omega)).trans (h.pk e he)
  by_ := fun e he => (h.by_ e he).keep ht.size (ht.block _ (h.by_ e he).lt (fun q => by have := hS _ q; have := (h.rp e he).2; omega))
  few := h.few
  map := h.map.keep (ht.block mp h.map.lt (fun e => by have := hS mp e; have := h.rm; omega))
  rb := h.rb
  rm := h.rm
  rr := h.rr
  rp := h.rp
  lt := fun k hk => Nat.lt_of_lt_of_le (h.lt k hk) ht.size
  onep := h.onep
  oneg := h.oneg
theorem NetAt.below (h : NetAt W b most v L mp C c ro) (hb : Below W.heap.size W W') : NetAt W' b most v L mp C c ro :=
  h.keep (S := fun _ => False) (.of_below hb) (fun _ h => h.elim)
theorem NetAt.cell1 (h : NetAt W b most v L mp C c ro) : W.cell? ⟨b, 1, none⟩ = some v := cell_of h.head 1
theorem NetAt.glob (h : NetAt W b most v L mp C c ro) : mp ≠ b := fun e => by
  have h1 := h.rb
  have h2 := h.rm
  rw [e, h1] at h2
  cases h2
end
/-! none, within -/
set_option maxRecDepth 100000 in
theorem nnone_nil (w : World) : Calls Tryz.prog 54 #[.pointer none] w fun e w' => e = .returned (.bool true) ∧ w' = w := by
  go_enter Tryz.func54, Tryz.ntmps54
  go_wp2
  go_ret
  exact ⟨rfl, rfl⟩
set_option maxRecDepth 100000 in
theorem nnone_any {w : World} {b : Nat} {x y : Value} {mp : Nat} {T : TypeId} {fr : Nat × Nat} (h : w.heap[b]? = some (.cells #[x, y, .map (some mp)] T fr)) : Calls Tryz.prog 54 #[.pointer (some ⟨b, 0, none⟩)] w fun e w' => e = .returned (.bool false) ∧ w' = w := by
  have hc : w.cell? ⟨b, 2, none⟩ = some (.map (some mp)) := cell_of h 2
  have qT : ∀ (w : World), (binOp .eql 97 (.map (some mp)) (.map none)).run Tryz.prog w = .ok (.bool false) w := fun w => run_eql_map_nil w _ _ _ (some mp) Tryz.underlying97
  clear h
  go_enter Tryz.func54, Tryz.ntmps54
  go_wp2
  go_ret
  exact ⟨rfl, rfl⟩
set_option maxRecDepth 100000 in
theorem nwithin_ok {w : World} {lo hi n : Int} (h1 : lo ≤ n) (h2 : n ≤ hi) : Calls Tryz.prog 47 #[.int .i64 lo, .int .i64 hi, .int .i64 n] w fun e w' => e = .returned .nilIface ∧ w' = w := by
  have HN := Lib.hid (new_num 2 (by decide) w)
  have q1 : decide (n < lo) = false := by simp; omega
  have q2 : decide (n > hi) = false := by simp; omega
  clear h1 h2
  go_enter Tryz.func47, Tryz.ntmps47
  go_wp2_with fail
  refine (HN.out).mono ?_
  rintro e w1 ⟨rfl, rfl⟩
  go_wp2
  go_ret
  exact ⟨rfl, rfl⟩
/-- An error of a number: not nil, and what it tells. -/
def ErrN (n : Int) (w : World) (v : Value) (w' : World) : Prop := (∃ t u, v = .iface t u) ∧ (∃ ch, ErrIs w' ch v ∧ NumOk ch ∧ ch.length < 900 ∧ codeOf ch = n) ∧ Below w.heap.size w w'
set_option maxRecDepth 100000 in
theorem nwithin_no {w : World} {lo hi n : Int} (h : ¬ (lo ≤ n ∧ n ≤ hi)) : Calls Tryz.prog 47 #[.int .i64 lo, .int .i64 hi, .int .i64 n] w fun e w' => ∃ v, e = .returned v ∧ ErrN 2 w v w' := by
  have HN := Lib.hid (new_num 2 (by decide) w)
  by_cases hlt : n < lo
  · have q1 : decide (n < lo) = true := by simp; omega
    have HB := Lib.hid (bound_some lo n 159 (.agg #[.int .i64 2]) w)
    clear h hlt
    go_enter Tryz.func47, Tryz.ntmps47
    go_wp2_with fail
    refine (HN.out).mono ?_
    rintro e w1 ⟨rfl, rfl⟩
    go_wp2_with fail
    refine (HB.out).mono ?_
    rintro e w2 ⟨rfl, rfl⟩
    go_wp2
    go_ret
    exact ⟨_, rfl, ⟨_, _, rfl⟩, ⟨[.bnd lo n, .num 2], ⟨by simp, _, _, rfl, alloc_at _ _, rfl, rfl⟩, numOk_cons (by simp) (numOk_one (by decide)), by simp, rfl⟩, below_new _⟩
  · have q1 : decide (n < lo) = false := by simp; omega
    have q2 : decide (n > hi) = true := by simp; omega
    have HB := Lib.hid (bound_some hi n 159 (.agg #[.int .i64 2]) w)
    clear h hlt
    go_enter Tryz.func47, Tryz.ntmps47
    go_wp2_with fail
    refine (HN.out).mono ?_
    rintro e w1 ⟨rfl, rfl⟩
    go_wp2_with fail
    refine (HB.out).mono ?_
    rintro e w2 ⟨rfl, rfl⟩
    go_wp2
    go_ret
    exact ⟨_, rfl, ⟨_, _, rfl⟩, ⟨[.bnd hi n, .num 2], ⟨by simp, _, _, rfl, alloc_at _ _, rfl, rfl⟩, numOk_cons (by simp) (numOk_one (by decide)), by simp, rfl⟩, below_new _⟩
set_option maxRecDepth 100000 in
theorem nnew_ok {w : World} {most : Int} (h1 : 1 ≤ most) (h2 : most ≤ 1024) : Calls Tryz.prog 11 #[.int .i64 most] w fun e w' => ∃ b mp ro, e = .returned (.tuple #[.pointer (some ⟨b, 0, none⟩), .int .i64 0]) ∧ NetAt w' b most (.slice none 0 0) [] mp [] 0 ro ∧ (∀ k, ro k ≠ 0 → w.heap.size ≤ k) ∧ Below w.heap.size w w' := by
  have HW := Lib.hid (nwithin_ok (w := w) h1 h2)
  have hmm := @run_makeMap Tryz.prog
  clear h1 h2
  go_enter Tryz.func11, Tryz.ntmps11
  go_wp2_with fail
  refine (HW.out).mono ?_
  rintro e w1 ⟨rfl, rfl⟩
  go_wp2_with fail
  refine bodyPost_ret (v := .tuple #[.pointer (some ⟨w1.heap.size + 1, 0, none⟩), .int .i64 0]) (by simp [results, Tryz.results11, go_sem]) rfl ?_
  have hb : Below w1.heap.size w1 ((w1.alloc (.map #[] 0)).alloc (.cells #[.int .i64 most, .slice none 0 0, .map (some w1.heap.size)] 100)) := (below_new _).trans ((below_new _).mono (by rw [asz]; exact Nat.le_succ _))
  have hro : ∀ k, (if k = w1.heap.size + 1 then 1 else if k = w1.heap.size then 2 else 0) ≠ 0 → w1.heap.size ≤ k ∧ k < w1.heap.size + 2 := by
    intro k hk
    by_cases e1 : k = w1.heap.size + 1
    · omega
    · rw [if_neg e1] at hk
      by_cases e2 : k = w1.heap.size
      · omega
      · rw [if_neg e2] at hk; exact absurd rfl hk
  refine ⟨w1.heap.size + 1, w1.heap.size, fun k => if k = w1.heap.size + 1 then 1 else if k = w1.heap.size then 2 else 0, rfl, ⟨?_, RowIs.nil _ _, by simp, by simp, ⟨by simp, by simp⟩, ?_, by simp, by simp, fun k h => (by cases h), by simp, fun k hk => ?_, by simp, by simp⟩, fun k hk => (hro k hk).1, hb⟩
  · have := alloc_at (w1.alloc (.map #[] 0)) (.cells #[.int .i64 most, .slice none 0 0, .map (some w1.heap.size)] 100)
    rwa [asz] at this
  · exact (MapIs.made Tryz.prog 3 w1).keep ((below_new _).block _ (by rw [asz]; exact Nat.lt_succ_self _))
  · have := (hro k hk).2
    rw [asz, asz]
    exact this
section
variable {w : World} {b : Nat} {most : Int} {v : Value} {L : List Pk} {mp : Nat} {C : List MapEntry} {c : Nat} {ro : Nat → Nat}
set_option maxRecDepth 100000 in
theorem nlen_nil : Calls Tryz.prog 16 #[.pointer none] w fun e w' => e = .returned (.int .i64 0) ∧ w' = w := by
  have HN := Lib.hid (nnone_nil w)
  go_enter Tryz.func16, Tryz.ntmps16
  go_wp2_with fail
  refine (HN.out).mono ?_
  rintro e w1 ⟨rfl, rfl⟩
  go_wp2_with fail
  go_ret
  exact ⟨rfl, rfl⟩
set_option maxRecDepth 100000 in
theorem nlen_any (h : NetAt w b most v L mp C c ro) : Calls Tryz.prog 16 #[.pointer (some ⟨b, 0, none⟩)] w fun e w' => e = .returned (.int .i64 L.length) ∧ w' = w := by
  have HN := Lib.hid (nnone_any h.head)
  have hc := h.cell1
  obtain ⟨A, cp, rfl, _⟩ := h.row.form
  clear h
  go_enter Tryz.func16, Tryz.ntmps16
  go_wp2_with fail
  refine (HN.out).mono ?_
  rintro e w1 ⟨rfl, rfl⟩
  go_wp2_with fail
  go_ret
  exact ⟨rfl, rfl⟩
set_option maxRecDepth 100000 in
set_option maxHeartbeats 4000000 in
theorem nfull_any (h : NetAt w b most v L mp C c ro) : Calls Tryz.prog 72 #[.pointer (some ⟨b, 0, none⟩)] w fun e w' => e = .returned (.bool (decide (most ≤ (L.length : Int)))) ∧ Below w.heap.size w w' := by
  obtain ⟨A, cp, rfl, _⟩ := h.row.form
  have HC : Hid (∀ W, Below w.heap.size w W → W.cell? ⟨b, 0, none⟩ = some (.int .i64 most) ∧ W.cell? ⟨b, 1, none⟩ = some (.slice A L.length cp)) := Lib.hid (fun W hW => ⟨cell_of (h.below hW).head 0, cell_of (h.below hW).head 1⟩)
  clear h
  go_enter Tryz.func72, Tryz.ntmps72
  go_wp2_with fail
  refine wp_only ?_
  refine wp_region_held_drew (S := fun W => W.cell? ⟨b, 0, none⟩ = some (.int .i64 most) ∧ W.cell? ⟨b, 1, none⟩ = some (.slice A L.length cp)) (by kernel_rfl) (HC.out _ (below_drew (Below.refl _ _))) (fun hHeld => ?_)
  refine wpAnyH_take (i := 0) (oi := { dst := some 3, op := Op.move (Operand.tmp 0), type := 23, pos := "net.go:135", after := #[], guard := none }) (v := ?vv1) rfl (by kernel_rfl) (by kernel_rfl) (by kernel_rfl) (fun _ _ _ h => h) ?hy1 (by assumption) ?rest1
  case hy1 => (refine Or.inl ⟨by rfl, ?_⟩; intro W hSw; (try dsimp only at hSw); go_simp; (try with_reducible rfl))
  try simp only [Act.put, List.setIfInBounds_toArray, List.set_cons_zero, List.set_cons_succ]
  refine wpAnyH_take (i := 1) (oi := { dst := some 4, op := Op.nilCheck (Operand.tmp 3), type := 0, pos := "net.go:135", after := #[{ on := 0, ground := Ground.data }], guard := none }) (v := ?vv2) rfl (by kernel_rfl) (by kernel_rfl) (by kernel_rfl) (fun _ _ _ h => h) ?hy2 (by assumption) ?rest2
  case hy2 => (refine Or.inl ⟨by rfl, ?_⟩; intro W hSw; (try dsimp only at hSw); go_simp; (try with_reducible rfl))
  try simp only [Act.put, List.setIfInBounds_toArray, List.set_cons_zero, List.set_cons_succ]
  refine wpAnyH_take (i := 2) (oi := { dst := some 5, op := Op.fieldAddr 100 (Operand.tmp 4) 1, type := 0, pos := "net.go:135", after := #[{ on := 1, ground := Ground.data }], guard := none }) (v := ?vv3) rfl (by kernel_rfl) (by kernel_rfl) (by kernel_rfl) (fun _ _ _ h => h) ?hy3 (by assumption) ?rest3
  case hy3 => (refine Or.inl ⟨by rfl, ?_⟩; intro W hSw; (try dsimp only at hSw); go_simp; (try with_reducible rfl))
  try simp only [Act.put, List.setIfInBounds_toArray, List.set_cons_zero, List.set_cons_succ]
  refine wpAnyH_take (i := 3) (oi := { dst := some 6, op := Op.load 98 (Operand.tmp 5), type := 98, pos := "net.go:135", after := #[{ on := 2, ground := Ground.data }], guard := none }) (v := ?vv4) rfl (by kernel_rfl) (by kernel_rfl) (by kernel_rfl) (fun _ _ _ h => h) ?hy4 (by assumption) ?rest4
  case hy4 => (refine Or.inl ⟨by rfl, ?_⟩; intro W hSw; (try dsimp only at hSw); go_simp; (try with_reducible rfl))
  try simp only [Act.put, List.setIfInBounds_toArray, List.set_cons_zero, List.set_cons_succ]
  refine wpAnyH_take (i := 4) (oi := { dst := some 7, op := Op.call { callee := Callee.builtin Builtin.len, args := #[Operand.tmp 6], argTypes := #[98] }, type := 3, pos := "net.go:135", after := #[{ on := 3, ground := Ground.data }], guard := none }) (v := ?vv5) rfl (by kernel_rfl) (by kernel_rfl) (by kernel_rfl) (fun _ _ _ h => h) ?hy5 (by assumption) ?rest5
  case hy5 => (refine Or.inl ⟨by rfl, ?_⟩; intro W hSw; (try dsimp only at hSw); go_simp; (try with_reducible rfl))
  try simp only [Act.put, List.setIfInBounds_toArray, List.set_cons_zero, List.set_cons_succ]
  refine wpAnyH_take (i := 5) (oi := { dst := some 8, op := Op.move (Operand.tmp 0), type := 23, pos := "net.go:135", after := #[], guard := none }) (v := ?vv6) rfl (by kernel_rfl) (by kernel_rfl) (by kernel_rfl) (fun _ _ _ h => h) ?hy6 (by assumption) ?rest6
  case hy6 => (refine Or.inl ⟨by rfl, ?_⟩; intro W hSw; (try dsimp only at hSw); go_simp; (try with_reducible rfl))
  try simp only [Act.put, List.setIfInBounds_toArray, List.set_cons_zero, List.set_cons_succ]
  refine wpAnyH_take (i := 6) (oi := { dst := some 9, op := Op.nilCheck (Operand.tmp 8), type := 0, pos := "net.go:135", after := #[{ on := 5, ground := Ground.data }], guard := none }) (v := ?vv7) rfl (by kernel_rfl) (by kernel_rfl) (by kernel_rfl) (fun _ _ _ h => h) ?hy7 (by assumption) ?rest7
  case hy7 => (refine Or.inl ⟨by rfl, ?_⟩; intro W hSw; (try dsimp only at hSw); go_simp; (try with_reducible rfl))
  try simp only [Act.put, List.setIfInBounds_toArray, List.set_cons_zero, List.set_cons_succ]
  refine wpAnyH_take (i := 7) (oi := { dst := some 10, op := Op.fieldAddr 100 (Operand.tmp 9) 0, type := 0, pos := "net.go:135", after := #[{ on := 6, ground := Ground.data }], guard := none }) (v := ?vv8) rfl (by kernel_rfl) (by kernel_rfl) (by kernel_rfl) (fun _ _ _ h => h) ?hy8 (by assumption) ?rest8
  case hy8 => (refine Or.inl ⟨by rfl, ?_⟩; intro W hSw; (try dsimp only at hSw); go_simp; (try with_reducible rfl))
  try simp only [Act.put, List.setIfInBounds_toArray, List.set_cons_zero, List.set_cons_succ]
  refine wpAnyH_take (i := 8) (oi := { dst := some 11, op := Op.load 3 (Operand.tmp 10), type := 3, pos := "net.go:135", after := #[{ on := 7, ground := Ground.data }], guard := none }) (v := ?vv9) rfl (by kernel_rfl) (by kernel_rfl) (by kernel_rfl) (fun _ _ _ h => h) ?hy9 (by assumption) ?rest9
  case hy9 => (refine Or.inl ⟨by rfl, ?_⟩; intro W hSw; (try dsimp only at hSw); go_simp; (try with_reducible rfl))
  try simp only [Act.put, List.setIfInBounds_toArray, List.set_cons_zero, List.set_cons_succ]
  refine wpAnyH_take (i := 9) (oi := { dst := some 12, op := Op.binOp BinOp.geq 3 (Operand.tmp 7) (Operand.tmp 11) 3, type := 4, pos := "net.go:135", after := #[{ on := 4, ground := Ground.data }, { on := 8, ground := Ground.data }], guard := none }) (v := ?vv10) rfl (by kernel_rfl) (by kernel_rfl) (by kernel_rfl) (fun _ _ _ h => h) ?hy10 (by assumption) ?rest10
  case hy10 => (refine Or.inl ⟨by rfl, ?_⟩; intro W hSw; (try dsimp only at hSw); go_simp; (try with_reducible rfl))
  try simp only [Act.put, List.setIfInBounds_toArray, List.set_cons_zero, List.set_cons_succ]
  refine wpAnyH_take (i := 10) (oi := { dst := some 2, op := Op.assign (Operand.tmp 12), type := 4, pos := "net.go:135", after := #[{ on := 9, ground := Ground.data }, { on := 0, ground := Ground.phase }, { on := 1, ground := Ground.phase }, { on := 2, ground := Ground.phase }, { on := 3, ground := Ground.phase }, { on := 4, ground := Ground.phase }, { on := 5, ground := Ground.phase }, { on := 6, ground := Ground.phase }, { on := 7, ground := Ground.phase }, { on := 8, ground := Ground.phase }, { on := 9, ground := Ground.phase }], guard := none }) (v := ?vv11) rfl (by kernel_rfl) (by kernel_rfl) (by kernel_rfl) (fun _ _ _ h => h) ?hy11 (by assumption) ?rest11
  case hy11 => (refine Or.inl ⟨by rfl, ?_⟩; intro W hSw; (try dsimp only at hSw); go_simp; (try with_reducible rfl))
  try simp only [Act.put, List.setIfInBounds_toArray, List.set_cons_zero, List.set_cons_succ]
  refine wpAnyH_done (by kernel_rfl) ?_ _
  clear hHeld
  dsimp only [onlyN]
  have HB2 := Lib.hid (below_drew (Below.refl w.heap.size w))
  go_wp2_with fail
  go_ret
  exact ⟨rfl, HB2.out⟩
end
end Go.Proofs.YtfddlhcdlgdofaaGreatDoor

namespace Go.Proofs.YtfddlhcdlgdofaaGreatDoor
open Go.RowKit Go.Shelf

theorem ncopy_off {P : Program} (w : World) (dT sT ty elem : TypeId) (z g p dn dc h q sn sc k : Nat) (l : List Value)
    (hu : P.underlying dT = some (.slice elem)) (hs : (P.info? elem).map (·.size) = some z) (hk : Nat.min sn dn = k) (hl : l.length = k * z)
    (hsrc : ∀ j v, l[j]? = some v → w.cell? ⟨h, q + j, none⟩ = some v) (hc : ∀ j, j < l.length → (w.cell? ⟨g, p + j, none⟩).isSome = true) (hf : ∀ j, j < l.length → w.frozen? ⟨g, p + j, none⟩ = false) (h1 : ∀ v ∈ l, v.oneCell' = true) :
    (Builtin.copy_ #[dT, sT] ty #[.slice (some ⟨g, p, none⟩) dn dc, .slice (some ⟨h, q, none⟩) sn sc]).run P w = .ok (.int .i64 k) (w.setCells g p l) := by
  have hf0 := run_firstCells_some (P := P) w z k ⟨h, q, none⟩ sn sc l hl (fun j v hj => by
    have hadd : (⟨h, q, none⟩ : Addr).add j = ⟨h, q + j, none⟩ := by unfold Addr.add; split <;> simp_all
    rw [hadd]; exact hsrc j v hj)
  have hst := run_storeCells_cells (P := P) g p l 0 w (fun j hj => by rw [Nat.add_zero]; exact hc j hj) (fun j hj => by rw [Nat.add_zero]; exact hf j hj) h1
  rw [Nat.add_zero] at hst
  cases hq : P.info? elem with
  | none => simp [hq] at hs
  | some i =>
    have hi : i.size = z := by simpa [hq] using hs
    simp only [Builtin.firstCells] at hf0
    simp [Builtin.copy_, run_underlying hu, Builtin.lenOf, Builtin.firstCells, sizeOf, typeInfo, hq, hi, hk, hf0, hst, goInt]
theorem nstep_copy_run {P : Program} {ops : Array Oper} {o : Oper} {a : Act} {w wa : World} {K : Act → World → Prop} {Q : Exit → Act → World → Prop} {E : Prop} {T tx : TypeId} {u v v' : Value}
    (hrun : (Builtin.copy_ #[T, tx] o.type #[u, v]).run P w = .ok v' wa) (hgd : o.guard = none) (s x : Operand) (ho : o.op = .call { callee := .builtin .copy, args := #[s, x], argTypes := #[T, tx] })
    (hs : a.eval s = u) (hx : a.eval x = v) (h : K (a.put o.dst v') wa) : if Region.wanted o (yielded ops a.tmps) = true then Oper.wp P o a w K Q else E := by
  have hw : Region.wanted o (yielded ops a.tmps) = true := by simp [Region.wanted, hgd]
  rw [if_pos hw]
  unfold Oper.wp execOp
  simp only [ho, resolve, invoke, builtin, Sem.run_bind, Sem.run_pure, Result.andThen_ok, List.map_toArray, List.map_cons, List.map_nil, hs, hx, hrun]
  exact h
theorem RowC.setRange {w : World} {z g cap p : Nat} {l l' ms : List Value} (h : RowC w z g cap l) (hp : p + ms.length ≤ cap * z) (hl : l'.length ≤ cap * z) (hin : ∀ j b, j < ms.length → l'[p + j]? = some b → ms[j]? = some b) (hout : ∀ j b, (j < p ∨ p + ms.length ≤ j) → l'[j]? = some b → l[j]? = some b) : RowC (w.setCells g p ms) z g cap l' := by
  have hex : ∀ j, j < ms.length → (w.cell? ⟨g, p + j, none⟩).isSome = true := fun j hj => (h.there (p + j) (by omega)).1
  refine ⟨by rw [(setCells_tape g ms p w).2]; exact h.lt, hl, h.max, fun j b hj => ?_, fun j hj => ⟨?_, ?_⟩⟩
  · by_cases hjn : p ≤ j ∧ j < p + ms.length
    · have h3 := World.cell?_setCells_in g ms p w hex (j - p) (by omega)
      have e : p + (j - p) = j := by omega
      rw [e] at h3
      rw [h3]
      have := hin (j - p) b (by omega) (by rw [e]; exact hj)
      exact congrArg some ((List.getElem?_eq_some_iff.1 this).2)
    · rw [World.cell?_setCells_out g ms p w ⟨g, j, none⟩ (fun _ _ => by simp only; omega)]
      exact h.holds j b (hout j b (by omega) hj)
  · by_cases hjn : p ≤ j ∧ j < p + ms.length
    · have h3 := World.cell?_setCells_in g ms p w hex (j - p) (by omega)
      have e : p + (j - p) = j := by omega
      rw [e] at h3
      rw [h3]; rfl
    · rw [World.cell?_setCells_out g ms p w ⟨g, j, none⟩ (fun _ _ => by simp only; omega)]
      exact (h.there j hj).1
  · rw [World.frozen?_setCells]; exact (h.there j hj).2
section
variable {w : World} {b : Nat} {most : Int} {v : Value} {L : List Pk} {mp : Nat} {C : List MapEntry} {c : Nat} {ro : Nat → Nat}
theorem ptrs_get {L : List Pk} {i : Nat} {e : Pk} (h : L[i]? = some e) : (ptrs L)[i]? = some e.ptr := by rw [List.getElem?_map, h]; rfl
/-- What a call that finds a packet, or none, tells. -/
def FindP (n : Int) (w : World) (e : Ending) (w' : World) : Prop := ∃ v, e = .returned (.tuple #[.pointer none, v]) ∧ ErrN n w v w'
set_option maxRecDepth 100000 in
theorem nfind_ok (h : NetAt w b most v L mp C c ro) {i : Nat} {x : Pk} (hi : L[i]? = some x) : Calls Tryz.prog 64 #[.pointer (some ⟨b, 0, none⟩), .int .i64 i] w fun e w' => e = .returned (.tuple #[x.ptr, .nilIface]) ∧ w' = w := by
  have HN := Lib.hid (nnone_any h.head)
  have hc := h.cell1
  have hlt := (List.getElem?_eq_some_iff.1 hi).1
  have hfew := h.few.1
  obtain ⟨A, cp, rfl, _, _, _, _, h5⟩ := h.row.form
  obtain ⟨g, rfl, k0⟩ := h5 i _ (ptrs_get hi)
  have q1 : decide ((i : Int) < 0) = false := by simp
  have q2 : decide ((i : Int) ≥ (L.length : Int)) = false := by simp; omega
  have hiI : (i : Int) < (L.length : Int) := by omega
  clear h hi h5 hlt
  unfold Pk.ptr at k0 ⊢
  go_enter Tryz.func64, Tryz.ntmps64
  go_wp2_with fail
  refine (HN.out).mono ?_
  rintro e w1 ⟨rfl, rfl⟩
  go_wp2_with fail
  exact bodyPost_ret (v := .tuple #[.pointer (some ⟨x.pb, 0, none⟩), .nilIface]) (by simp [results, Tryz.results64, go_sem]) rfl ⟨rfl, rfl⟩
set_option maxRecDepth 100000 in
theorem nfind_nil (i : Int) : Calls Tryz.prog 64 #[.pointer none, .int .i64 i] w (FindP 1 w) := by
  have HN := Lib.hid (nnone_nil w)
  have HE := Lib.hid (new_num 1 (by decide) w)
  go_enter Tryz.func64, Tryz.ntmps64
  go_wp2_with fail
  refine (HN.out).mono ?_
  rintro e w1 ⟨rfl, rfl⟩
  go_wp2_with fail
  refine (HE.out).mono ?_
  rintro e w1 ⟨rfl, rfl⟩
  go_wp2_with fail
  exact bodyPost_ret (v := .tuple #[.pointer none, .iface 159 (.agg #[.int .i64 1])]) (by simp [results, Tryz.results64, go_sem]) rfl ⟨_, rfl, ⟨_, _, rfl⟩, ⟨[.num 1], ⟨rfl, rfl⟩, numOk_one (by decide), by simp, rfl⟩, Below.refl _ _⟩
set_option maxRecDepth 100000 in
set_option maxHeartbeats 4000000 in
theorem nfind_no (h : NetAt w b most v L mp C c ro) {i : Int} (hi : ¬ (0 ≤ i ∧ i < (L.length : Int))) : Calls Tryz.prog 64 #[.pointer (some ⟨b, 0, none⟩), .int .i64 i] w (FindP 3 w) := by
  have HN := Lib.hid (nnone_any h.head)
  have hc := h.cell1
  obtain ⟨A, cp, rfl, _⟩ := h.row.form
  have HE := Lib.hid (new_num 3 (by decide) w)
  have HA := Lib.hid (at_some i 159 (.agg #[.int .i64 3]) w)
  have HFIN : Hid (FindP 3 w (.returned (.tuple #[.pointer none, .iface 190 (.pointer (some ⟨w.heap.size, 0, none⟩))])) (w.alloc (.cells #[.iface 159 (.agg #[.int .i64 3]), .int .i64 i] 194))) := Lib.hid ⟨_, rfl, ⟨_, _, rfl⟩, ⟨[.plc i, .num 3], ⟨by simp, _, _, rfl, alloc_at _ _, rfl, rfl⟩, numOk_cons (by simp) (numOk_one (by decide)), by simp, rfl⟩, below_new _⟩
  by_cases h0 : i < 0
  · have q1 : decide (i < 0) = true := by simpa using h0
    clear h hi h0
    go_enter Tryz.func64, Tryz.ntmps64
    go_wp2_with fail
    refine (HN.out).mono ?_
    rintro e w1 ⟨rfl, rfl⟩
    go_wp2_with fail
    refine (HE.out).mono ?_
    rintro e w1 ⟨rfl, rfl⟩
    go_wp2_with fail
    refine (HA.out).mono ?_
    rintro e w2 ⟨rfl, rfl⟩
    go_wp2_with fail
    exact bodyPost_ret (v := .tuple #[.pointer none, .iface 190 (.pointer (some ⟨_, 0, none⟩))]) (by simp [results, Tryz.results64, go_sem]) rfl HFIN.out
  · have q1 : decide (i < 0) = false := by simpa using h0
    have q2 : decide (i ≥ (L.length : Int)) = true := by simp; omega
    clear h hi h0
    go_enter Tryz.func64, Tryz.ntmps64
    go_wp2_with fail
    refine (HN.out).mono ?_
    rintro e w1 ⟨rfl, rfl⟩
    go_wp2_with fail
    refine (HE.out).mono ?_
    rintro e w1 ⟨rfl, rfl⟩
    go_wp2_with fail
    refine (HA.out).mono ?_
    rintro e w2 ⟨rfl, rfl⟩
    go_wp2_with fail
    exact bodyPost_ret (v := .tuple #[.pointer none, .iface 190 (.pointer (some ⟨_, 0, none⟩))]) (by simp [results, Tryz.results64, go_sem]) rfl HFIN.out
set_option maxRecDepth 100000 in
set_option maxHeartbeats 4000000 in
theorem nparted_no (h : NetAt w b most v L mp C c ro) {s : Int} (hs : -9223372036854775808 ≤ s ∧ s ≤ 9223372036854775807) (hno : ∀ e ∈ C, e.key ≠ .int .i64 s) : Calls Tryz.prog 66 #[.pointer (some ⟨b, 0, none⟩), .int .i64 s] w fun e w' => e = .returned (.bool false) ∧ Below w.heap.size w w' := by
  have hc : w.cell? ⟨b, 2, none⟩ = some (.map (some mp)) := cell_of h.head 2
  have hkey : keyOf Tryz.prog 3 (.int .i64 s) = some (.int .i64 s) := by
    refine Go.Maps.keyOf_int_mk Tryz.underlying3 ?_
    have e1 : IntKind.i64.min = -9223372036854775808 := by decide
    have e2 : IntKind.i64.max = 9223372036854775807 := by decide
    simp [Lit.wf, e1, e2]
    omega
  have qL := h.map.look_miss (Go.Maps.int_keyed Tryz.underlying3) Tryz.underlying97 (z := .agg #[]) (by kernel_rfl) hkey hno true
  simp only [if_true] at qL
  clear h hno hkey hs
  go_enter Tryz.func66, Tryz.ntmps66
  go_wp2_with fail
  go_ret
  exact ⟨rfl, below_new _⟩
end
end Go.Proofs.YtfddlhcdlgdofaaGreatDoor

namespace Go.Proofs.YtfddlhcdlgdofaaGreatDoor
open Go.RowKit Go.Shelf

theorem info1P : (Tryz.prog.info? 120).map (·.size) = some 1 := by kernel_rfl
theorem RowC.setOut {w : World} {g cap p : Nat} {l : List Value} (h : RowC w 1 g cap l) (hp : l.length ≤ p) (hpc : p < cap) (x : Value) : RowC (w.setCell ⟨g, p, none⟩ x) 1 g cap l := by
  obtain ⟨u, hc⟩ := Option.isSome_iff_exists.1 (h.there p (by omega)).1
  refine ⟨by simp [World.setCell]; exact h.lt, h.le, h.max, fun j y hj => ?_, fun j hj => ⟨?_, by simpa using (h.there j hj).2⟩⟩
  · have := (List.getElem?_eq_some_iff.1 hj).1
    rw [World.cell?_setCell_other _ _ _ _ (fun e => by injection e; omega)]
    exact h.holds j y hj
  · by_cases hij : p = j
    · subst hij
      rw [World.cell?_setCell_same _ _ _ hc]
      rfl
    · rw [World.cell?_setCell_other _ _ _ _ (fun e => hij (by injection e))]
      exact (h.there j hj).1
theorem RowC.setIn {w : World} {g cap p : Nat} {l : List Value} (h : RowC w 1 g cap l) (hp : p < l.length) (x : Value) : RowC (w.setCell ⟨g, p, none⟩ x) 1 g cap (l.set p x) := by
  have hle := h.le
  obtain ⟨u, hc⟩ := Option.isSome_iff_exists.1 (h.there p (by omega)).1
  refine ⟨by simp [World.setCell]; exact h.lt, by rw [List.length_set]; exact hle, h.max, fun j y hj => ?_, fun j hj => ⟨?_, by simpa using (h.there j hj).2⟩⟩
  · rw [List.getElem?_set] at hj
    by_cases hij : p = j
    · subst hij
      rw [if_pos rfl, if_pos hp] at hj
      rw [World.cell?_setCell_same _ _ _ hc]
      exact hj
    · rw [if_neg hij] at hj
      rw [World.cell?_setCell_other _ _ _ _ (fun e => hij (by injection e))]
      exact h.holds j y hj
  · by_cases hij : p = j
    · subst hij
      rw [World.cell?_setCell_same _ _ _ hc]
      rfl
    · rw [World.cell?_setCell_other _ _ _ _ (fun e => hij (by injection e))]
      exact (h.there j hj).1
section
variable {w : World} {b : Nat} {most : Int} {v : Value} {L : List Pk} {mp : Nat} {C : List MapEntry} {c : Nat} {ro : Nat → Nat}
/-- The net with another row, at the same packets or fewer. -/
theorem NetAt.reRow (h : NetAt w b most v L mp C c ro) {W : World} {v' : Value} {L' : List Pk} {ro' : Nat → Nat} {S : Nat → Prop} (ht : Touch S w W) (hS : ∀ k, k < w.heap.size → S k → ro k = 1 ∨ ro k = 3) (hh : W.heap[b]? = some (.cells #[.int .i64 most, v', .map (some mp)] 100 (0, 0)))
    (hr : RowIs W 1 v' L'.length (ptrs L')) (hl : L'.length ≤ 1024) (hsub : ∀ e ∈ L', e ∈ L) (hone : ∀ (i j : Nat) (x y : Pk), L'[i]? = some x → L'[j]? = some y → (x.pb = y.pb ∨ x.g = y.g) → i = j) (hro : ∀ k, ro k ≠ 0 → ro' k = ro k) (hro2 : ∀ k, ro' k ≠ 0 → k < W.heap.size) (hv : ∀ k, v'.ownBlock = some k → ro' k = 3) : NetAt W b most v' L' mp C c ro' where
  head := hh
  row := hr
  pk := fun e he => (ht.block _ (heap_lt (h.pk e (hsub e he))) (fun q => by have := hS _ (heap_lt (h.pk e (hsub e he))) q; have := (h.rp e (hsub e he)).1; omega)).trans (h.pk e (hsub e he))
  by_ := fun e he => (h.by_ e (hsub e he)).keep ht.size (ht.block _ (h.by_ e (hsub e he)).lt (fun q => by have := hS _ (h.by_ e (hsub e he)).lt q; have := (h.rp e (hsub e he)).2; omega))
  few := ⟨hl, fun e he => h.few.2 e (hsub e he)⟩
  map := h.map.keep (ht.block mp h.map.lt (fun e => by have := hS mp h.map.lt e; have := h.rm; omega))
  rb := by rw [hro b (by rw [h.rb]; decide)]; exact h.rb
  rm := by rw [hro mp (by rw [h.rm]; decide)]; exact h.rm
  rr := hv
  rp := fun e he => by
    have h1 := h.rp e (hsub e he)
    exact ⟨by rw [hro _ (by rw [h1.1]; decide)]; exact h1.1, by rw [hro _ (by rw [h1.2]; decide)]; exact h1.2⟩
  lt := hro2
  onep := fun i j x y hx hy e => hone i j x y hx hy (.inl e)
  oneg := fun i j x y hx hy e => hone i j x y hx hy (.inr e)
theorem NetAt.one (h : NetAt w b most v L mp C c ro) : ∀ (i j : Nat) (x y : Pk), L[i]? = some x → L[j]? = some y → (x.pb = y.pb ∨ x.g = y.g) → i = j := fun i j x y hx hy e => e.elim (h.onep i j x y hx hy) (h.oneg i j x y hx hy)
theorem erase_get {α : Type} {l : List α} {i j : Nat} : (l.eraseIdx i)[j]? = if j < i then l[j]? else l[j + 1]? := by
  rw [List.getElem?_eraseIdx]
set_option maxRecDepth 100000 in
set_option maxHeartbeats 4000000 in
theorem ntake_any (h : NetAt w b most v L mp C c ro) {i : Nat} (hi : i < L.length) : Calls Tryz.prog 69 #[.pointer (some ⟨b, 0, none⟩), .int .i64 i] w fun e w' => ∃ v', e = .returned (.tuple #[]) ∧ NetAt w' b most v' (L.eraseIdx i) mp C c ro ∧ Touch (fun k => ro k = 1 ∨ ro k = 3) w w' := by
  rcases h.row with ⟨rfl, hn, _⟩ | ⟨g, cap, rfl, hl, hcap, hrow⟩
  · omega
  have hc := h.cell1
  have hmx := hrow.max
  unfold maxLen at hmx
  obtain ⟨n, hn⟩ : ∃ n, L.length = n + 1 := ⟨L.length - 1, by omega⟩
  have hcap2 : n + 1 ≤ cap := by omega
  rw [hn] at hc
  have HC : Hid (∀ W : World, W.heap[b]? = w.heap[b]? → W.cell? ⟨b, 1, none⟩ = some (.slice (some ⟨g, 0, none⟩) (n + 1) cap)) := Lib.hid (fun W hW => (World.cell?_of_block (a := ⟨b, 1, none⟩) hW).trans hc)
  have hwr : IntKind.i64.wrap ((i : Int) + 1) = (i : Int) + 1 := IntWalk.i64_in _ (by have := h.few.1; omega)
  have hwn : IntKind.i64.wrap (((n + 1 : Nat) : Int) - 1) = (n : Int) := by rw [show (((n + 1 : Nat) : Int) - 1) = (n : Int) by omega]; exact IntWalk.i64_in _ (by have := h.few.1; omega)
  have hiI : (i : Int) ≤ (n : Int) := by omega
  have hi1 : ¬ cap = i := by omega
  have hi2 : ¬ ((n : Int) + 1 < (i : Int)) := by omega
  have hi3 : (0 : Int) ≤ (i : Int) + 1 := by omega
  have hgb : g ≠ b := fun e => by have h1 := h.rr g rfl; have h2 := h.rb; rw [e, h2] at h1; cases h1
  have hpl : (ptrs L).length = n + 1 := by rw [List.length_map]; exact hn
  have hrd : RowC w.drew 1 g cap (ptrs L) := hrow.keep (Nat.le_refl _) rfl
  have hcp : ∀ (ty : TypeId) (A2 : Option Addr), A2 = (if cap = i + 1 then some ⟨g, 0, none⟩ else some ⟨g, i + 1, none⟩) → (Builtin.copy_ #[98, 98] ty #[.slice (some ⟨g, i, none⟩) (n + 1 - i) (cap - i), .slice A2 (n - i) (cap - (i + 1))]).run Tryz.prog w.drew = .ok (.int .i64 ((n - i : Nat) : Int)) (w.drew.setCells g i ((ptrs L).drop (i + 1))) := by
    rintro ty A2 rfl
    have hdl : ((ptrs L).drop (i + 1)).length = (n - i) * 1 := by rw [List.length_drop, hpl]; omega
    have hmin : Nat.min (n - i) (n + 1 - i) = n - i := Nat.min_eq_left (by omega)
    have hone : ∀ u ∈ (ptrs L).drop (i + 1), u.oneCell' = true := fun u hu => by
      obtain ⟨e, _, rfl⟩ := List.mem_map.1 (List.mem_of_mem_drop hu)
      rfl
    by_cases hc1 : cap = i + 1
    · rw [if_pos hc1]
      exact ncopy_off w.drew _ _ ty 120 1 g i (n + 1 - i) (cap - i) g 0 (n - i) (cap - (i + 1)) (n - i) _ Tryz.underlying98 info1P hmin hdl (fun j u hj => by have := (List.getElem?_eq_some_iff.1 hj).1; omega) (fun j hj => (hrd.there (i + j) (by omega)).1) (fun j hj => (hrd.there (i + j) (by omega)).2) hone
    · rw [if_neg hc1]
      exact ncopy_off w.drew _ _ ty 120 1 g i (n + 1 - i) (cap - i) g (i + 1) (n - i) (cap - (i + 1)) (n - i) _ Tryz.underlying98 info1P hmin hdl (fun j u hj => by rw [List.getElem?_drop] at hj; exact hrd.holds _ u hj) (fun j hj => (hrd.there (i + j) (by omega)).1) (fun j hj => (hrd.there (i + j) (by omega)).2) hone
  have hsub : ∀ e ∈ L.eraseIdx i, e ∈ L := fun e he => List.mem_of_mem_eraseIdx he
  have hel : (L.eraseIdx i).length = n := by rw [List.length_eraseIdx, if_pos hi, hn]; rfl
  have hrow1 : RowC (w.drew.setCells g i ((ptrs L).drop (i + 1))) 1 g cap (ptrs (L.eraseIdx i)) := by
    refine hrd.setRange (by rw [List.length_drop, hpl]; omega) (by rw [List.length_map, hel]; omega) (fun j u hj hu => ?_) (fun j u hj hu => ?_)
    · rw [List.getElem?_map, erase_get, if_neg (by omega)] at hu
      rw [List.getElem?_drop, List.getElem?_map, show i + 1 + j = i + j + 1 from by omega]
      exact hu
    · rw [List.length_drop, hpl] at hj
      rw [List.getElem?_map, erase_get] at hu
      rw [List.getElem?_map]
      rcases hj with hj | hj
      · rw [if_pos hj] at hu; exact hu
      · rw [if_neg (by omega)] at hu
        cases hx : L[j + 1]? with
        | none => rw [hx] at hu; cases hu
        | some x => have := (List.getElem?_eq_some_iff.1 hx).1; omega
  obtain ⟨W1, hW1⟩ : ∃ W, W = w.drew.setCells g i ((ptrs L).drop (i + 1)) := ⟨_, rfl⟩
  have hT1 : Touch (fun k => k = g) w W1 := by
    have := setCells_touch (S := fun k => k = g) (a := w.drew) g (fun _ => rfl) ((ptrs L).drop (i + 1)) i w.drew (Touch.refl _ _)
    rw [hW1]
    exact (Touch.refl (fun k => k = g) w).drew.trans this (fun _ _ e => e)
  rw [← hW1] at hrow1 hcp
  have hh1 := (hT1.block b (heap_lt h.head) (fun e => hgb e.symm)).trans h.head
  rw [hn] at hh1
  have hrow2 := hrow1.setOut (p := n) (by rw [List.length_map, hel]; exact Nat.le_refl _) (by omega) (.pointer none)
  have hT2 : Touch (fun k => k = g) w (W1.setCell ⟨g, n, none⟩ (.pointer none)) := hT1.setCell ⟨g, n, none⟩ (fun _ => rfl) _
  have hh2 := (hT2.block b (heap_lt h.head) (fun e => hgb e.symm)).trans h.head
  rw [hn] at hh2
  have hh3 := set_at hh2 1 (.slice (some ⟨g, 0, none⟩) n cap)
  have hT3 : Touch (fun k => k = g ∨ k = b) w ((W1.setCell ⟨g, n, none⟩ (.pointer none)).setCell ⟨b, 1, none⟩ (.slice (some ⟨g, 0, none⟩) n cap)) := (hT2.mono (fun _ _ e => .inl e)).setCell ⟨b, 1, none⟩ (fun _ => .inr rfl) _
  have hrow3 : RowC ((W1.setCell ⟨g, n, none⟩ (.pointer none)).setCell ⟨b, 1, none⟩ (.slice (some ⟨g, 0, none⟩) n cap)) 1 g cap (ptrs (L.eraseIdx i)) := hrow2.keep (by simp [World.setCell]) (Below.heap_setCell _ _ _ _ hgb)
  have HFIN : Hid (NetAt ((W1.setCell ⟨g, n, none⟩ (.pointer none)).setCell ⟨b, 1, none⟩ (.slice (some ⟨g, 0, none⟩) n cap)) b most (.slice (some ⟨g, 0, none⟩) n cap) (L.eraseIdx i) mp C c ro ∧ Touch (fun k => ro k = 1 ∨ ro k = 3) w ((W1.setCell ⟨g, n, none⟩ (.pointer none)).setCell ⟨b, 1, none⟩ (.slice (some ⟨g, 0, none⟩) n cap))) := Lib.hid ⟨h.reRow hT3 (fun k hk e => by
      rcases e with e | e
      · exact .inr (by rw [e]; exact h.rr g rfl)
      · exact .inl (by rw [e]; exact h.rb)) hh3 (.inr ⟨g, cap, by rw [hel], by rw [List.length_map]; omega, by omega, hrow3⟩) (by have := h.few.1; omega) hsub (fun p q x y hx hy e => by
      rw [erase_get] at hx hy
      split at hx <;> split at hy
      · exact h.one p q x y hx hy e
      · have := h.one p (q + 1) x y hx hy e; omega
      · have := h.one (p + 1) q x y hx hy e; omega
      · have := h.one (p + 1) (q + 1) x y hx hy e; omega) (fun _ _ => rfl) (fun k hk => Nat.lt_of_lt_of_le (h.lt k hk) hT3.size) (fun k hk => by cases hk; exact h.rr g rfl), hT3.mono (fun k hk e => by
      rcases e with e | e
      · rw [e, h.rr g rfl]; exact .inr rfl
      · rw [e, h.rb]; exact .inl rfl)⟩
  obtain ⟨u0, hu0⟩ := Option.isSome_iff_exists.1 (hrow1.there n (by omega)).1
  have hf0 := (hrow1.there n (by omega)).2
  have k1 : W1.cell? ⟨b, 1, none⟩ = some (.slice (some ⟨g, 0, none⟩) (n + 1) cap) := cell_of hh1 1
  have k2 : (W1.setCell ⟨g, n, none⟩ (.pointer none)).cell? ⟨b, 1, none⟩ = some (.slice (some ⟨g, 0, none⟩) (n + 1) cap) := cell_of hh2 1
  have f2 : (W1.setCell ⟨g, n, none⟩ (.pointer none)).frozen? ⟨b, 1, none⟩ = false := free0 hh2 1
  have hnI : (n : Int) < (n : Int) + 1 := by omega
  have hnc : n ≤ cap := by omega
  have HC1 := Lib.hid (HC.out W1 (hT1.block b (heap_lt h.head) (fun e => hgb e.symm)))
  have HCP := Lib.hid hcp
  have HW1 := Lib.hid hW1
  clear hrd hrow hrow1 hrow2 hrow3 hT1 hT2 hT3 hh1 hh2 hh3 hcp hsub hel h hi hW1 hpl hl
  go_enter Tryz.func69, Tryz.ntmps69
  go_wp2_with fail
  refine wp_only ?_
  refine wp_region_held_drew (S := fun W => W.cell? ⟨b, 1, none⟩ = some (.slice (some ⟨g, 0, none⟩) (n + 1) cap)) (by kernel_rfl) (HC.out _ rfl) (fun hHeld => ?_)
  refine wpAnyH_take (i := 0) (oi := { dst := some 11, op := Op.move (Operand.tmp 0), type := 23, pos := "packet.go:99", after := #[], guard := none }) (v := ?vv1) rfl (by kernel_rfl) (by kernel_rfl) (by kernel_rfl) (fun _ _ _ h => h) ?hy1 (by assumption) ?rest1
  case hy1 => (refine Or.inl ⟨by rfl, ?_⟩; intro W hSw; (try dsimp only at hSw); go_simp; (try with_reducible rfl))
  try simp only [Act.put, List.setIfInBounds_toArray, List.set_cons_zero, List.set_cons_succ]
  refine wpAnyH_take (i := 1) (oi := { dst := some 12, op := Op.nilCheck (Operand.tmp 11), type := 0, pos := "packet.go:99", after := #[{ on := 0, ground := Ground.data }], guard := none }) (v := ?vv2) rfl (by kernel_rfl) (by kernel_rfl) (by kernel_rfl) (fun _ _ _ h => h) ?hy2 (by assumption) ?rest2
  case hy2 => (refine Or.inl ⟨by rfl, ?_⟩; intro W hSw; (try dsimp only at hSw); go_simp; (try with_reducible rfl))
  try simp only [Act.put, List.setIfInBounds_toArray, List.set_cons_zero, List.set_cons_succ]
  refine wpAnyH_take (i := 2) (oi := { dst := some 13, op := Op.fieldAddr 100 (Operand.tmp 12) 1, type := 0, pos := "packet.go:99", after := #[{ on := 1, ground := Ground.data }], guard := none }) (v := ?vv3) rfl (by kernel_rfl) (by kernel_rfl) (by kernel_rfl) (fun _ _ _ h => h) ?hy3 (by assumption) ?rest3
  case hy3 => (refine Or.inl ⟨by rfl, ?_⟩; intro W hSw; (try dsimp only at hSw); go_simp; (try with_reducible rfl))
  try simp only [Act.put, List.setIfInBounds_toArray, List.set_cons_zero, List.set_cons_succ]
  refine wpAnyH_take (i := 3) (oi := { dst := some 14, op := Op.load 98 (Operand.tmp 13), type := 98, pos := "packet.go:99", after := #[{ on := 2, ground := Ground.data }], guard := none }) (v := ?vv4) rfl (by kernel_rfl) (by kernel_rfl) (by kernel_rfl) (fun _ _ _ h => h) ?hy4 (by assumption) ?rest4
  case hy4 => (refine Or.inl ⟨by rfl, ?_⟩; intro W hSw; (try dsimp only at hSw); go_simp; (try with_reducible rfl))
  try simp only [Act.put, List.setIfInBounds_toArray, List.set_cons_zero, List.set_cons_succ]
  refine wpAnyH_take (i := 4) (oi := { dst := some 15, op := Op.move (Operand.tmp 1), type := 3, pos := "packet.go:99", after := #[], guard := none }) (v := ?vv5) rfl (by kernel_rfl) (by kernel_rfl) (by kernel_rfl) (fun _ _ _ h => h) ?hy5 (by assumption) ?rest5
  case hy5 => (refine Or.inl ⟨by rfl, ?_⟩; intro W hSw; (try dsimp only at hSw); go_simp; (try with_reducible rfl))
  try simp only [Act.put, List.setIfInBounds_toArray, List.set_cons_zero, List.set_cons_succ]
  refine wpAnyH_take (i := 5) (oi := { dst := some 16, op := Op.slice 98 (Operand.tmp 14) (some (Operand.tmp 15)) none none, type := 98, pos := "packet.go:99", after := #[{ on := 3, ground := Ground.data }, { on := 4, ground := Ground.data }], guard := none }) (v := ?vv6) rfl (by kernel_rfl) (by kernel_rfl) (by kernel_rfl) (fun _ _ _ h => h) ?hy6 (by assumption) ?rest6
  case hy6 => (refine Or.inl ⟨by rfl, ?_⟩; intro W hSw; (try dsimp only at hSw); go_simp; (try with_reducible rfl))
  try simp only [Act.put, List.setIfInBounds_toArray, List.set_cons_zero, List.set_cons_succ]
  refine wpAnyH_take (i := 6) (oi := { dst := some 17, op := Op.move (Operand.tmp 0), type := 23, pos := "packet.go:99", after := #[], guard := none }) (v := ?vv7) rfl (by kernel_rfl) (by kernel_rfl) (by kernel_rfl) (fun _ _ _ h => h) ?hy7 (by assumption) ?rest7
  case hy7 => (refine Or.inl ⟨by rfl, ?_⟩; intro W hSw; (try dsimp only at hSw); go_simp; (try with_reducible rfl))
  try simp only [Act.put, List.setIfInBounds_toArray, List.set_cons_zero, List.set_cons_succ]
  refine wpAnyH_take (i := 7) (oi := { dst := some 18, op := Op.nilCheck (Operand.tmp 17), type := 0, pos := "packet.go:99", after := #[{ on := 6, ground := Ground.data }], guard := none }) (v := ?vv8) rfl (by kernel_rfl) (by kernel_rfl) (by kernel_rfl) (fun _ _ _ h => h) ?hy8 (by assumption) ?rest8
  case hy8 => (refine Or.inl ⟨by rfl, ?_⟩; intro W hSw; (try dsimp only at hSw); go_simp; (try with_reducible rfl))
  try simp only [Act.put, List.setIfInBounds_toArray, List.set_cons_zero, List.set_cons_succ]
  refine wpAnyH_take (i := 8) (oi := { dst := some 19, op := Op.fieldAddr 100 (Operand.tmp 18) 1, type := 0, pos := "packet.go:99", after := #[{ on := 7, ground := Ground.data }], guard := none }) (v := ?vv9) rfl (by kernel_rfl) (by kernel_rfl) (by kernel_rfl) (fun _ _ _ h => h) ?hy9 (by assumption) ?rest9
  case hy9 => (refine Or.inl ⟨by rfl, ?_⟩; intro W hSw; (try dsimp only at hSw); go_simp; (try with_reducible rfl))
  try simp only [Act.put, List.setIfInBounds_toArray, List.set_cons_zero, List.set_cons_succ]
  refine wpAnyH_take (i := 9) (oi := { dst := some 20, op := Op.load 98 (Operand.tmp 19), type := 98, pos := "packet.go:99", after := #[{ on := 8, ground := Ground.data }], guard := none }) (v := ?vv10) rfl (by kernel_rfl) (by kernel_rfl) (by kernel_rfl) (fun _ _ _ h => h) ?hy10 (by assumption) ?rest10
  case hy10 => (refine Or.inl ⟨by rfl, ?_⟩; intro W hSw; (try dsimp only at hSw); go_simp; (try with_reducible rfl))
  try simp only [Act.put, List.setIfInBounds_toArray, List.set_cons_zero, List.set_cons_succ]
  refine wpAnyH_take (i := 10) (oi := { dst := some 21, op := Op.move (Operand.tmp 1), type := 3, pos := "packet.go:99", after := #[], guard := none }) (v := ?vv11) rfl (by kernel_rfl) (by kernel_rfl) (by kernel_rfl) (fun _ _ _ h => h) ?hy11 (by assumption) ?rest11
  case hy11 => (refine Or.inl ⟨by rfl, ?_⟩; intro W hSw; (try dsimp only at hSw); go_simp; (try with_reducible rfl))
  try simp only [Act.put, List.setIfInBounds_toArray, List.set_cons_zero, List.set_cons_succ]
  refine wpAnyH_take (i := 11) (oi := { dst := some 22, op := Op.binOp BinOp.add 3 (Operand.tmp 21) (Operand.const (Value.int IntKind.i64 1)) 3, type := 3, pos := "packet.go:99", after := #[{ on := 10, ground := Ground.data }], guard := none }) (v := ?vv12) rfl (by kernel_rfl) (by kernel_rfl) (by kernel_rfl) (fun _ _ _ h => h) ?hy12 (by assumption) ?rest12
  case hy12 => (refine Or.inl ⟨by rfl, ?_⟩; intro W hSw; (try dsimp only at hSw); go_simp; (try with_reducible rfl))
  try simp only [Act.put, List.setIfInBounds_toArray, List.set_cons_zero, List.set_cons_succ]
  refine wpAnyH_take (i := 12) (oi := { dst := some 23, op := Op.slice 98 (Operand.tmp 20) (some (Operand.tmp 22)) none none, type := 98, pos := "packet.go:99", after := #[{ on := 9, ground := Ground.data }, { on := 11, ground := Ground.data }], guard := none }) (v := ?vv13) rfl (by kernel_rfl) (by kernel_rfl) (by kernel_rfl) (fun _ _ _ h => h) ?hy13 (by assumption) ?rest13
  case hy13 => (refine Or.inl ⟨by rfl, ?_⟩; intro W hSw; (try dsimp only at hSw); go_simp; (try with_reducible rfl))
  try simp only [Act.put, List.setIfInBounds_toArray, List.set_cons_zero, List.set_cons_succ]
  refine wpAnyH_ready (rs := [13]) (by kernel_rfl) (by simp) ?_
  refine AllReadyH.cons (o := { dst := some 24, op := Op.call { callee := Callee.builtin Builtin.copy, args := #[Operand.tmp 16, Operand.tmp 23], argTypes := #[98, 98] }, type := 3, pos := "packet.go:99", after := #[{ on := 5, ground := Ground.data }, { on := 12, ground := Ground.data }], guard := none }) rfl (fun K hK => ?step14) ?more14
  case more14 => exact AllReadyH.nil
  (refine nstep_copy_run (HCP.out _ _ rfl) rfl (.tmp 16) (.tmp 23) rfl rfl rfl ?_)
  refine hK.out _ _ ?hS14 (fun hHeld => ?rr14)
  case hS14 => (exact HC1.out)
  clear hK K
  try simp only [Act.put, List.setIfInBounds_toArray, List.set_cons_zero, List.set_cons_succ]
  refine wpAnyH_done (by kernel_rfl) ?_ _
  clear hHeld
  dsimp only [onlyN]
  go_wp2_with fail
  · go_end0
    have hci : cap = i + 1 := by assumption
    have H := HFIN.out
    rw [hci] at H
    exact ⟨rfl, ⟨_, H.1⟩, H.2⟩
  · go_end0
    exact ⟨rfl, ⟨_, HFIN.out.1⟩, HFIN.out.2⟩
end
end Go.Proofs.YtfddlhcdlgdofaaGreatDoor

namespace Go.Proofs.YtfddlhcdlgdofaaGreatDoor
open Go.RowKit Go.Shelf

theorem infoP1 : (Tryz.prog.info? 120).map (fun i => (i.zero, i.size, i.bytes)) = some (some (.pointer none), 1, 8) := by kernel_rfl
/-- Roles with one more row. -/
def roRow (ro : Nat → Nat) (g : Nat) (k : Nat) : Nat := if k = g then 3 else ro k
/-- What a call does to the net's blocks. -/
def Step (w w' : World) (ro ro' : Nat → Nat) : Prop := Touch (fun k => ro k ≠ 0) w w' ∧ ∀ k, k < w.heap.size → ro' k = ro k
theorem Step.refl (w : World) (ro : Nat → Nat) : Step w w ro ro := ⟨Touch.refl _ _, fun _ _ => rfl⟩
theorem Step.of_below {w w' : World} (ro : Nat → Nat) (h : Below w.heap.size w w') : Step w w' ro ro := ⟨.of_below h, fun _ _ => rfl⟩
theorem Step.trans {a b c : World} {r s t : Nat → Nat} (h : Step a b r s) (k : Step b c s t) : Step a c r t :=
  ⟨h.1.trans k.1 (fun i hi hs => by rw [← h.2 i hi]; exact hs), fun i hi => by rw [k.2 i (Nat.lt_of_lt_of_le hi h.1.size), h.2 i hi]⟩
theorem Step.after {a b c : World} {r s : Nat → Nat} (h : Step a b r s) (k : Below b.heap.size b c) : Step a c r s := h.trans (.of_below s k)
theorem Step.ahead {a b c : World} {r s : Nat → Nat} (h : Below a.heap.size a b) (k : Step b c r s) : Step a c r s := (Step.of_below r h).trans k
theorem ins_get {α : Type} {l : List α} {i j : Nat} {x : α} (hi : i ≤ l.length) : (l.insertIdx i x)[j]? = if j < i then l[j]? else if j = i then some x else l[j - 1]? := by
  rw [List.getElem?_insertIdx]
  by_cases h1 : j < i
  · rw [if_pos h1, if_pos h1]
  · rw [if_neg h1, if_neg h1]
    by_cases h2 : j = i
    · rw [if_pos h2, if_pos h2, if_pos (by omega)]
    · rw [if_neg h2, if_neg h2]
section
variable {w : World} {b : Nat} {most : Int} {v : Value} {L : List Pk} {mp : Nat} {C : List MapEntry} {c : Nat} {ro : Nat → Nat}
/-- A packet beside the net's. -/
structure Beside (w : World) (L : List Pk) (ro : Nat → Nat) (x : Pk) : Prop where
  pk : w.heap[x.pb]? = some (.cells x.cells 125 (0, 0))
  by_ : OwnC w 0 x.g x.cap x.bs
  few : x.bs ≠ [] ∧ x.bs.length ≤ 20000
  rp : ro x.pb = 4 ∧ ro x.g = 5
  off : ∀ e ∈ L, e.pb ≠ x.pb ∧ e.g ≠ x.g
/-- The net with another row, and one more packet. -/
theorem NetAt.more (h : NetAt w b most v L mp C c ro) {x : Pk} (hx : Beside w L ro x) {W : World} {v' : Value} {i : Nat} {ro' : Nat → Nat} {S : Nat → Prop} (hi : i ≤ L.length) (ht : Touch S w W) (hS : ∀ k, k < w.heap.size → S k → ro k = 1 ∨ ro k = 3) (hh : W.heap[b]? = some (.cells #[.int .i64 most, v', .map (some mp)] 100 (0, 0)))
    (hr : RowIs W 1 v' (L.insertIdx i x).length (ptrs (L.insertIdx i x))) (hl : L.length + 1 ≤ 1024) (hro : ∀ k, ro k ≠ 0 → ro' k = ro k) (hro2 : ∀ k, ro' k ≠ 0 → k < W.heap.size) (hv : ∀ k, v'.ownBlock = some k → ro' k = 3) : NetAt W b most v' (L.insertIdx i x) mp C c ro' := by
  have hmem : ∀ e ∈ L.insertIdx i x, e ∈ L ∨ e = x := fun e he => by
    obtain ⟨j, hj⟩ := List.getElem?_of_mem he
    rw [ins_get hi] at hj
    split at hj
    · exact .inl (List.mem_of_getElem? hj)
    · split at hj
      · exact .inr (Option.some.inj hj).symm
      · exact .inl (List.mem_of_getElem? hj)
  have hone : ∀ (p q : Nat) (y z : Pk), (L.insertIdx i x)[p]? = some y → (L.insertIdx i x)[q]? = some z → (y.pb = z.pb ∨ y.g = z.g) → p = q := by
    intro p q y z hy hz e
    rw [ins_get hi] at hy hz
    have hoff : ∀ {y : Pk} {j : Nat}, L[j]? = some y → (y.pb = x.pb ∨ y.g = x.g) → False := fun hy e => by
      have h1 := hx.off _ (List.mem_of_getElem? hy)
      rcases e with e | e
      · exact h1.1 e
      · exact h1.2 e
    split at hy
    · split at hz
      · exact h.one p q y z hy hz e
      · split at hz
        · cases hz; exact (hoff hy e).elim
        · have := h.one p (q - 1) y z hy hz e; omega
    · split at hy
      · cases hy
        split at hz
        · exact (hoff hz (e.imp Eq.symm Eq.symm)).elim
        · split at hz
          · omega
          · exact (hoff hz (e.imp Eq.symm Eq.symm)).elim
      · split at hz
        · have := h.one (p - 1) q y z hy hz e; omega
        · split at hz
          · cases hz; exact (hoff hy e).elim
          · have := h.one (p - 1) (q - 1) y z hy hz e; omega
  have hkp : ∀ {k r : Nat}, ro k = r → (r = 2 ∨ r = 4 ∨ r = 5) → k < w.heap.size → W.heap[k]? = w.heap[k]? := fun {k r} hk hr hlt => ht.block k hlt (fun q => by have := hS k hlt q; omega)
  have hkr : ∀ {k r : Nat}, ro k = r → r ≠ 0 → ro' k = r := fun {k r} hk hr => by rw [hro k (by rw [hk]; exact hr)]; exact hk
  refine ⟨hh, hr, fun e he => ?_, fun e he => ?_, ⟨?_, fun e he => ?_⟩, ?_, hkr h.rb (by decide), hkr h.rm (by decide), hv, fun e he => ?_, hro2, fun p q y z hy hz e => hone p q y z hy hz (.inl e), fun p q y z hy hz e => hone p q y z hy hz (.inr e)⟩
  · rcases hmem e he with h1 | rfl
    · exact (hkp (h.rp e h1).1 (by decide) (heap_lt (h.pk e h1))).trans (h.pk e h1)
    · exact (hkp hx.rp.1 (by decide) (heap_lt hx.pk)).trans hx.pk
  · rcases hmem e he with h1 | rfl
    · exact (h.by_ e h1).keep ht.size (hkp (h.rp e h1).2 (by decide) (h.by_ e h1).lt)
    · exact hx.by_.keep ht.size (hkp hx.rp.2 (by decide) hx.by_.lt)
  · rw [List.length_insertIdx, if_pos hi]; exact hl
  · rcases hmem e he with h1 | rfl
    · exact h.few.2 e h1
    · exact hx.few
  · exact h.map.keep (hkp h.rm (by decide) h.map.lt)
  · rcases hmem e he with h1 | rfl
    · exact ⟨hkr (h.rp e h1).1 (by decide), hkr (h.rp e h1).2 (by decide)⟩
    · exact ⟨hkr hx.rp.1 (by decide), hkr hx.rp.2 (by decide)⟩
set_option maxRecDepth 100000 in
set_option maxHeartbeats 4000000 in
theorem nput_any (h : NetAt w b most v L mp C c ro) {x : Pk} (hx : Beside w L ro x) {i : Nat} (hi : i ≤ L.length) (hl : L.length + 1 ≤ 1024) : Calls Tryz.prog 75 #[.pointer (some ⟨b, 0, none⟩), .int .i64 i, x.ptr] w fun e w' => e = .returned (.tuple #[]) ∧ ∃ v' ro', NetAt w' b most v' (L.insertIdx i x) mp C c ro' ∧ Step w w' ro ro' := by
  obtain ⟨n, hn⟩ : ∃ n, L.length = n := ⟨_, rfl⟩
  have hpl : (ptrs L).length = n := by rw [List.length_map]; exact hn
  have hb0 := below_new (w := w) (.cells #[.pointer none] 120)
  have hat := alloc_at w (.cells #[.pointer none] 120)
  have hro0 := h.row
  rw [hn] at hro0
  obtain ⟨A0, c0, hv0, _⟩ := id hro0.form
  obtain ⟨v1, W1, hr1, hrow1, hg1, hblk1⟩ := run_append_row (w.alloc (.cells #[.pointer none] 120)) 98 120 98 98 Tryz.underlying98 infoP1 rfl (by omega) (by omega) v n 1 (ptrs L) [.pointer none] (.slice (some ⟨w.heap.size, 0, none⟩) 1 1) (hro0.below hb0)
    (Src.ofSlice _ Tryz.underlying98 ⟨w.heap.size, 0, none⟩ 1 1 [.pointer none] rfl (fun k u hu => by
      rw [add0, cell_of hat k]
      simpa using hu) (by simp [Value.oneCell'])) (by omega)
  have hcb := h.cell1
  have hc0 : (w.alloc (.cells #[.pointer none] 120)).cell? ⟨b, 1, none⟩ = some v := (h.below hb0).cell1
  have hf0 : w.frozen? ⟨b, 1, none⟩ = false := free0 h.head 1
  have hvb : v.ownBlock ≠ some b := fun e => by have h1 := h.rr b e; have h2 := h.rb; rw [h2] at h1; cases h1
  have hhd1 : W1.heap[b]? = some (.cells #[.int .i64 most, v, .map (some mp)] 100 (0, 0)) := (hg1.block b (by rw [asz]; exact Nat.lt_succ_of_lt (heap_lt h.head)) (fun e => hvb e.symm)).trans ((hb0.block b (heap_lt h.head)).trans h.head)
  have hf1 : W1.frozen? ⟨b, 1, none⟩ = false := free0 hhd1 1
  have hc1 : W1.cell? ⟨b, 1, none⟩ = some v := cell_of hhd1 1
  rcases hrow1 with ⟨rfl, hz, _⟩ | ⟨g, cap, rfl, hl1, hcap, hrow1⟩
  · omega
  have hmx := hrow1.max
  unfold maxLen at hmx
  have hgw : v.ownBlock = some g ∨ w.heap.size + 1 = g := by
    rcases hblk1 with e | e
    · exact .inl e.symm
    · exact .inr (by have e2 : g = (w.alloc (.cells #[.pointer none] 120)).heap.size := Option.some.inj e; rw [asz] at e2; exact e2.symm)
  have hgb : g ≠ b := fun e => by
    rcases hgw with h1 | h1
    · exact hvb (by rw [h1, e])
    · have := heap_lt h.head; omega
  have hT1 : Touch (fun k => v.ownBlock = some k) w W1 := ((Touch.refl _ _).alloc _).grown hg1 (fun k e _ => e)
  obtain ⟨W2, hW2⟩ : ∃ W, W = W1.setCell ⟨b, 1, none⟩ (.slice (some ⟨g, 0, none⟩) (n + 1) cap) := ⟨_, rfl⟩
  have hT2 : Touch (fun k => v.ownBlock = some k ∨ k = b) w W2 := by rw [hW2]; exact (hT1.mono (fun _ _ e => .inl e)).setCell ⟨b, 1, none⟩ (fun _ => .inr rfl) _
  have hh2 : W2.heap[b]? = some (.cells #[.int .i64 most, .slice (some ⟨g, 0, none⟩) (n + 1) cap, .map (some mp)] 100 (0, 0)) := by rw [hW2]; exact set_at hhd1 1 _
  have hrow2 : RowC W2 1 g cap (ptrs L ++ [.pointer none]) := by rw [hW2]; exact hrow1.keep (by simp [World.setCell]) (Below.heap_setCell _ _ _ _ hgb)
  have hrd : RowC W2.drew 1 g cap (ptrs L ++ [.pointer none]) := hrow2.keep (Nat.le_refl _) rfl
  have hcp : ∀ (ty : TypeId) (A2 : Option Addr), A2 = (if cap = i + 1 then some ⟨g, 0, none⟩ else some ⟨g, i + 1, none⟩) → (Builtin.copy_ #[98, 98] ty #[.slice A2 (n - i) (cap - (i + 1)), .slice (some ⟨g, i, none⟩) (n + 1 - i) (cap - i)]).run Tryz.prog W2.drew = .ok (.int .i64 ((n - i : Nat) : Int)) (W2.drew.setCells g (i + 1) ((ptrs L).drop i)) := by
    rintro ty A2 rfl
    have hdl : ((ptrs L).drop i).length = (n - i) * 1 := by rw [List.length_drop, hpl]; omega
    have hmin : Nat.min (n + 1 - i) (n - i) = n - i := Nat.min_eq_right (by omega)
    have hone : ∀ u ∈ (ptrs L).drop i, u.oneCell' = true := fun u hu => by
      obtain ⟨e, _, rfl⟩ := List.mem_map.1 (List.mem_of_mem_drop hu)
      rfl
    have hsrc : ∀ j u, ((ptrs L).drop i)[j]? = some u → W2.drew.cell? ⟨g, i + j, none⟩ = some u := fun j u hj => by
      rw [List.getElem?_drop] at hj
      exact hrd.holds _ u (by rw [List.getElem?_append_left (List.getElem?_eq_some_iff.1 hj).1]; exact hj)
    by_cases hc1 : cap = i + 1
    · have hni : n = i := by omega
      rw [if_pos hc1]
      have e0 : (ptrs L).drop i = [] := List.eq_nil_of_length_eq_zero (by omega)
      have := ncopy_off (P := Tryz.prog) W2.drew 98 98 ty 120 1 g 0 (n - i) (cap - (i + 1)) g i (n + 1 - i) (cap - i) (n - i) ((ptrs L).drop i) Tryz.underlying98 info1P hmin hdl hsrc (fun j hj => by omega) (fun j hj => by omega) hone
      rw [this, e0]
      rfl
    · rw [if_neg hc1]
      exact ncopy_off W2.drew 98 98 ty 120 1 g (i + 1) (n - i) (cap - (i + 1)) g i (n + 1 - i) (cap - i) (n - i) _ Tryz.underlying98 info1P hmin hdl hsrc (fun j hj => (hrd.there (i + 1 + j) (by omega)).1) (fun j hj => (hrd.there (i + 1 + j) (by omega)).2) hone
  obtain ⟨W3, hW3⟩ : ∃ W, W = W2.drew.setCells g (i + 1) ((ptrs L).drop i) := ⟨_, rfl⟩
  have hT3 : Touch (fun k => k = g) W2 W3 := by
    have := setCells_touch (S := fun k => k = g) (a := W2.drew) g (fun _ => rfl) ((ptrs L).drop i) (i + 1) W2.drew (Touch.refl _ _)
    rw [hW3]
    exact (Touch.refl (fun k => k = g) W2).drew.trans this (fun _ _ e => e)
  have hil : (L.insertIdx i x).length = n + 1 := by rw [List.length_insertIdx, if_pos hi, hn]
  obtain ⟨z, hz⟩ : ∃ z, (ptrs L ++ [.pointer none])[i]? = some z := ⟨_, List.getElem?_eq_getElem (by rw [List.length_append, hpl, List.length_singleton]; omega)⟩
  have e1 : ((ptrs L).take i).length = i := by rw [List.length_take, hpl]; omega
  have hmid : RowC W3 1 g cap ((ptrs L).take i ++ z :: (ptrs L).drop i) := by
    rw [hW3]
    refine hrd.setRange (by rw [List.length_drop, hpl]; omega) (by rw [List.length_append, List.length_cons, e1, List.length_drop, hpl]; omega) (fun j u hj hu => ?_) (fun j u hj hu => ?_)
    · rw [List.getElem?_append_right (by rw [e1]; omega), e1, show i + 1 + j - i = j + 1 from by omega, List.getElem?_cons_succ] at hu
      exact hu
    · rw [List.length_drop, hpl] at hj
      by_cases hji : j < i
      · rw [List.getElem?_append_left (by rw [e1]; exact hji), List.getElem?_take, if_pos hji] at hu
        rw [List.getElem?_append_left (by rw [hpl]; omega)]
        exact hu
      · by_cases hij : j = i
        · subst hij
          rw [List.getElem?_append_right (by rw [e1]; omega), e1, show j - j = 0 from by omega] at hu
          cases hu
          exact hz
        · rw [List.getElem?_append_right (by rw [e1]; omega), e1] at hu
          have := (List.getElem?_eq_some_iff.1 hu).1
          rw [List.length_cons, List.length_drop, hpl] at this
          omega
  have hset : ((ptrs L).take i ++ z :: (ptrs L).drop i).set i x.ptr = ptrs (L.insertIdx i x) := by
    apply List.ext_getElem?
    intro j
    rw [List.getElem?_set, List.length_append, List.length_cons, e1, List.length_drop, hpl, List.getElem?_map, ins_get hi]
    by_cases h1 : j < i
    · rw [if_neg (by omega), if_pos h1, List.getElem?_append_left (by rw [e1]; exact h1), List.getElem?_take, if_pos h1, List.getElem?_map]
    · by_cases h2 : i = j
      · subst h2
        rw [if_pos rfl, if_pos (by omega), if_neg (by omega), if_pos rfl]
        rfl
      · rw [if_neg h2, if_neg h1, if_neg (fun e => h2 e.symm), List.getElem?_append_right (by rw [e1]; omega), e1, show j - i = (j - i - 1) + 1 from by omega, List.getElem?_cons_succ, List.getElem?_drop, List.getElem?_map, show i + (j - i - 1) = j - 1 from by omega]
  have hcl : ((ptrs L).take i ++ z :: (ptrs L).drop i).length = n + 1 := by rw [List.length_append, List.length_cons, e1, List.length_drop, hpl]; omega
  obtain ⟨u0, hu0⟩ := Option.isSome_iff_exists.1 (hmid.there i (by omega)).1
  have hf3 := (hmid.there i (by omega)).2
  have hT23 : Touch (fun k => v.ownBlock = some k ∨ k = b ∨ k = g) w W3 := (hT2.mono (fun k _ e => by rcases e with e | e; exact .inl e; exact .inr (.inl e))).trans hT3 (fun k _ e => .inr (.inr e))
  have hh3 := (hT3.block b (heap_lt hh2) (fun e => hgb e.symm)).trans hh2
  obtain ⟨W4, hW4⟩ : ∃ W, W = W3.setCell ⟨g, i, none⟩ x.ptr := ⟨_, rfl⟩
  have hT4 : Touch (fun k => v.ownBlock = some k ∨ k = b ∨ k = g) w W4 := by rw [hW4]; exact hT23.setCell ⟨g, i, none⟩ (fun _ => .inr (.inr rfl)) _
  have hrow4 : RowC W4 1 g cap (ptrs (L.insertIdx i x)) := by rw [hW4, ← hset]; exact hmid.setIn (by rw [hcl]; omega) _
  have hh4 : W4.heap[b]? = some (.cells #[.int .i64 most, .slice (some ⟨g, 0, none⟩) (n + 1) cap, .map (some mp)] 100 (0, 0)) := by rw [hW4]; exact (Below.heap_setCell W3 ⟨g, i, none⟩ _ b (fun e => hgb e.symm)).trans hh3
  have hbw := heap_lt h.head
  have hgs : ∀ k, k < w.heap.size → k = g → ro k = 3 := fun k hk e => by
    rcases hgw with h1 | h1
    · rw [e]; exact h.rr g h1
    · omega
  have hgr : ∀ k, ro k ≠ 0 → roRow ro g k = ro k := fun k hk => by
    unfold roRow
    split
    · next e => exact (hgs k (h.lt k hk) e).symm
    · rfl
  have hgr2 : ∀ k, k < w.heap.size → roRow ro g k = ro k := fun k hk => by
    unfold roRow
    split
    · next e => exact (hgs k hk e).symm
    · rfl
  have HFIN : Hid (NetAt W4 b most (.slice (some ⟨g, 0, none⟩) (n + 1) cap) (L.insertIdx i x) mp C c (roRow ro g) ∧ Step w W4 ro (roRow ro g)) := Lib.hid ⟨h.more hx hi hT4 (fun k hk e => by
      rcases e with e | e | e
      · exact .inr (h.rr k e)
      · exact .inl (by rw [e]; exact h.rb)
      · exact .inr (hgs k hk e)) hh4 (.inr ⟨g, cap, by rw [hil], by rw [List.length_map, hil]; omega, by omega, hrow4⟩) (by omega) hgr (fun k hk => by
      unfold roRow at hk
      split at hk
      · next e => rw [e]; exact hrow4.lt
      · exact Nat.lt_of_lt_of_le (h.lt k hk) hT4.size) (fun k hk => by cases hk; unfold roRow; rw [if_pos rfl]), hT4.mono (fun k hk e => by
      rcases e with e | e | e
      · rw [h.rr k e]; decide
      · rw [e, h.rb]; decide
      · rw [hgs k hk e]; decide), hgr2⟩
  have c2 : W2.cell? ⟨b, 1, none⟩ = some (.slice (some ⟨g, 0, none⟩) (n + 1) cap) := cell_of hh2 1
  have c3 : W3.cell? ⟨b, 1, none⟩ = some (.slice (some ⟨g, 0, none⟩) (n + 1) cap) := cell_of hh3 1
  have HC : Hid (∀ W : World, W.heap[b]? = W2.heap[b]? → W.cell? ⟨b, 1, none⟩ = some (.slice (some ⟨g, 0, none⟩) (n + 1) cap)) := Lib.hid (fun W hW => (World.cell?_of_block (a := ⟨b, 1, none⟩) hW).trans c2)
  have hwr : IntKind.i64.wrap ((i : Int) + 1) = (i : Int) + 1 := IntWalk.i64_in _ (by omega)
  have hi1 : ¬ cap = i := by omega
  have hi2 : ¬ ((n : Int) + 1 < (i : Int)) := by omega
  have hi3 : (0 : Int) ≤ (i : Int) + 1 := by omega
  have hi4 : (i : Int) ≤ (n : Int) := by omega
  have hi5 : (i : Int) < (n : Int) + 1 := by omega
  rw [← hW3] at hcp
  have HCP : Hid _ := Lib.hid hcp
  have HW2 := Lib.hid hW2
  have HW4 := Lib.hid hW4
  unfold Pk.ptr
  have hn0 : n + 1 ≤ cap := by omega
  have HC2 := Lib.hid c3
  clear hrd hrow1 hrow2 hmid hset hcl hT1 hT2 hT3 hT23 hT4 hrow4 hh2 hh3 hh4 hcp hpl h hi hx hil hn hl hl1 hcap hz e1 hgs hgr hgr2 hgw hblk1 hg1 hb0 hat hro0 hhd1 hf0 hv0 hbw
  go_enter Tryz.func75, Tryz.ntmps75
  go_wp2_with (at_builtin; refine wpList_app_run rfl _ _ _ _ rfl rfl rfl hr1 ?_)
  rw [← hW2]
  refine wp_only ?_
  refine wp_region_held_drew (S := fun W => W.cell? ⟨b, 1, none⟩ = some (.slice (some ⟨g, 0, none⟩) (n + 1) cap)) (by kernel_rfl) (HC.out _ rfl) (fun hHeld => ?_)
  refine wpAnyH_take (i := 0) (oi := { dst := some 15, op := Op.move (Operand.tmp 0), type := 23, pos := "packet.go:107", after := #[], guard := none }) (v := ?vv1) rfl (by kernel_rfl) (by kernel_rfl) (by kernel_rfl) (fun _ _ _ h => h) ?hy1 (by assumption) ?rest1
  case hy1 => (refine Or.inl ⟨by rfl, ?_⟩; intro W hSw; (try dsimp only at hSw); go_simp; (try with_reducible rfl))
  try simp only [Act.put, List.setIfInBounds_toArray, List.set_cons_zero, List.set_cons_succ]
  refine wpAnyH_take (i := 1) (oi := { dst := some 16, op := Op.nilCheck (Operand.tmp 15), type := 0, pos := "packet.go:107", after := #[{ on := 0, ground := Ground.data }], guard := none }) (v := ?vv2) rfl (by kernel_rfl) (by kernel_rfl) (by kernel_rfl) (fun _ _ _ h => h) ?hy2 (by assumption) ?rest2
  case hy2 => (refine Or.inl ⟨by rfl, ?_⟩; intro W hSw; (try dsimp only at hSw); go_simp; (try with_reducible rfl))
  try simp only [Act.put, List.setIfInBounds_toArray, List.set_cons_zero, List.set_cons_succ]
  refine wpAnyH_take (i := 2) (oi := { dst := some 17, op := Op.fieldAddr 100 (Operand.tmp 16) 1, type := 0, pos := "packet.go:107", after := #[{ on := 1, ground := Ground.data }], guard := none }) (v := ?vv3) rfl (by kernel_rfl) (by kernel_rfl) (by kernel_rfl) (fun _ _ _ h => h) ?hy3 (by assumption) ?rest3
  case hy3 => (refine Or.inl ⟨by rfl, ?_⟩; intro W hSw; (try dsimp only at hSw); go_simp; (try with_reducible rfl))
  try simp only [Act.put, List.setIfInBounds_toArray, List.set_cons_zero, List.set_cons_succ]
  refine wpAnyH_take (i := 3) (oi := { dst := some 18, op := Op.load 98 (Operand.tmp 17), type := 98, pos := "packet.go:107", after := #[{ on := 2, ground := Ground.data }], guard := none }) (v := ?vv4) rfl (by kernel_rfl) (by kernel_rfl) (by kernel_rfl) (fun _ _ _ h => h) ?hy4 (by assumption) ?rest4
  case hy4 => (refine Or.inl ⟨by rfl, ?_⟩; intro W hSw; (try dsimp only at hSw); go_simp; (try with_reducible rfl))
  try simp only [Act.put, List.setIfInBounds_toArray, List.set_cons_zero, List.set_cons_succ]
  refine wpAnyH_take (i := 4) (oi := { dst := some 19, op := Op.move (Operand.tmp 1), type := 3, pos := "packet.go:107", after := #[], guard := none }) (v := ?vv5) rfl (by kernel_rfl) (by kernel_rfl) (by kernel_rfl) (fun _ _ _ h => h) ?hy5 (by assumption) ?rest5
  case hy5 => (refine Or.inl ⟨by rfl, ?_⟩; intro W hSw; (try dsimp only at hSw); go_simp; (try with_reducible rfl))
  try simp only [Act.put, List.setIfInBounds_toArray, List.set_cons_zero, List.set_cons_succ]
  refine wpAnyH_take (i := 5) (oi := { dst := some 20, op := Op.binOp BinOp.add 3 (Operand.tmp 19) (Operand.const (Value.int IntKind.i64 1)) 3, type := 3, pos := "packet.go:107", after := #[{ on := 4, ground := Ground.data }], guard := none }) (v := ?vv6) rfl (by kernel_rfl) (by kernel_rfl) (by kernel_rfl) (fun _ _ _ h => h) ?hy6 (by assumption) ?rest6
  case hy6 => (refine Or.inl ⟨by rfl, ?_⟩; intro W hSw; (try dsimp only at hSw); go_simp; (try with_reducible rfl))
  try simp only [Act.put, List.setIfInBounds_toArray, List.set_cons_zero, List.set_cons_succ]
  refine wpAnyH_take (i := 6) (oi := { dst := some 21, op := Op.slice 98 (Operand.tmp 18) (some (Operand.tmp 20)) none none, type := 98, pos := "packet.go:107", after := #[{ on := 3, ground := Ground.data }, { on := 5, ground := Ground.data }], guard := none }) (v := ?vv7) rfl (by kernel_rfl) (by kernel_rfl) (by kernel_rfl) (fun _ _ _ h => h) ?hy7 (by assumption) ?rest7
  case hy7 => (refine Or.inl ⟨by rfl, ?_⟩; intro W hSw; (try dsimp only at hSw); go_simp; (try with_reducible rfl))
  try simp only [Act.put, List.setIfInBounds_toArray, List.set_cons_zero, List.set_cons_succ]
  refine wpAnyH_take (i := 7) (oi := { dst := some 22, op := Op.move (Operand.tmp 0), type := 23, pos := "packet.go:107", after := #[], guard := none }) (v := ?vv8) rfl (by kernel_rfl) (by kernel_rfl) (by kernel_rfl) (fun _ _ _ h => h) ?hy8 (by assumption) ?rest8
  case hy8 => (refine Or.inl ⟨by rfl, ?_⟩; intro W hSw; (try dsimp only at hSw); go_simp; (try with_reducible rfl))
  try simp only [Act.put, List.setIfInBounds_toArray, List.set_cons_zero, List.set_cons_succ]
  refine wpAnyH_take (i := 8) (oi := { dst := some 23, op := Op.nilCheck (Operand.tmp 22), type := 0, pos := "packet.go:107", after := #[{ on := 7, ground := Ground.data }], guard := none }) (v := ?vv9) rfl (by kernel_rfl) (by kernel_rfl) (by kernel_rfl) (fun _ _ _ h => h) ?hy9 (by assumption) ?rest9
  case hy9 => (refine Or.inl ⟨by rfl, ?_⟩; intro W hSw; (try dsimp only at hSw); go_simp; (try with_reducible rfl))
  try simp only [Act.put, List.setIfInBounds_toArray, List.set_cons_zero, List.set_cons_succ]
  refine wpAnyH_take (i := 9) (oi := { dst := some 24, op := Op.fieldAddr 100 (Operand.tmp 23) 1, type := 0, pos := "packet.go:107", after := #[{ on := 8, ground := Ground.data }], guard := none }) (v := ?vv10) rfl (by kernel_rfl) (by kernel_rfl) (by kernel_rfl) (fun _ _ _ h => h) ?hy10 (by assumption) ?rest10
  case hy10 => (refine Or.inl ⟨by rfl, ?_⟩; intro W hSw; (try dsimp only at hSw); go_simp; (try with_reducible rfl))
  try simp only [Act.put, List.setIfInBounds_toArray, List.set_cons_zero, List.set_cons_succ]
  refine wpAnyH_take (i := 10) (oi := { dst := some 25, op := Op.load 98 (Operand.tmp 24), type := 98, pos := "packet.go:107", after := #[{ on := 9, ground := Ground.data }], guard := none }) (v := ?vv11) rfl (by kernel_rfl) (by kernel_rfl) (by kernel_rfl) (fun _ _ _ h => h) ?hy11 (by assumption) ?rest11
  case hy11 => (refine Or.inl ⟨by rfl, ?_⟩; intro W hSw; (try dsimp only at hSw); go_simp; (try with_reducible rfl))
  try simp only [Act.put, List.setIfInBounds_toArray, List.set_cons_zero, List.set_cons_succ]
  refine wpAnyH_take (i := 11) (oi := { dst := some 26, op := Op.move (Operand.tmp 1), type := 3, pos := "packet.go:107", after := #[], guard := none }) (v := ?vv12) rfl (by kernel_rfl) (by kernel_rfl) (by kernel_rfl) (fun _ _ _ h => h) ?hy12 (by assumption) ?rest12
  case hy12 => (refine Or.inl ⟨by rfl, ?_⟩; intro W hSw; (try dsimp only at hSw); go_simp; (try with_reducible rfl))
  try simp only [Act.put, List.setIfInBounds_toArray, List.set_cons_zero, List.set_cons_succ]
  refine wpAnyH_take (i := 12) (oi := { dst := some 27, op := Op.slice 98 (Operand.tmp 25) (some (Operand.tmp 26)) none none, type := 98, pos := "packet.go:107", after := #[{ on := 10, ground := Ground.data }, { on := 11, ground := Ground.data }], guard := none }) (v := ?vv13) rfl (by kernel_rfl) (by kernel_rfl) (by kernel_rfl) (fun _ _ _ h => h) ?hy13 (by assumption) ?rest13
  case hy13 => (refine Or.inl ⟨by rfl, ?_⟩; intro W hSw; (try dsimp only at hSw); go_simp; (try with_reducible rfl))
  try simp only [Act.put, List.setIfInBounds_toArray, List.set_cons_zero, List.set_cons_succ]
  refine wpAnyH_ready (rs := [13]) (by kernel_rfl) (by simp) ?_
  refine AllReadyH.cons (o := { dst := some 28, op := Op.call { callee := Callee.builtin Builtin.copy, args := #[Operand.tmp 21, Operand.tmp 27], argTypes := #[98, 98] }, type := 3, pos := "packet.go:107", after := #[{ on := 6, ground := Ground.data }, { on := 12, ground := Ground.data }], guard := none }) rfl (fun K hK => ?step14) ?more14
  case more14 => exact AllReadyH.nil
  (refine nstep_copy_run (HCP.out _ _ rfl) rfl (.tmp 21) (.tmp 27) rfl rfl rfl ?_)
  refine hK.out _ _ ?hS14 (fun hHeld => ?rr14)
  case hS14 => (exact HC2.out)
  clear hK K
  try simp only [Act.put, List.setIfInBounds_toArray, List.set_cons_zero, List.set_cons_succ]
  refine wpAnyH_done (by kernel_rfl) ?_ _
  clear hHeld
  dsimp only [onlyN]
  clear hW2 hW3 hW4 hc1 hc0 hcb hr1
  go_wp2_with fail
  · go_end0
    have hci : cap = i + 1 := by assumption
    have H := HFIN.out
    rw [HW4.out, hci] at H
    exact ⟨rfl, _, _, H.1, H.2⟩
  · go_end0
    have H := HFIN.out
    rw [HW4.out] at H
    exact ⟨rfl, _, _, H.1, H.2⟩
end
end Go.Proofs.YtfddlhcdlgdofaaGreatDoor

namespace Go.Proofs.YtfddlhcdlgdofaaGreatDoor
open Go.RowKit Go.Shelf
section
variable {w : World} {b : Nat} {most : Int} {v : Value} {L : List Pk} {mp : Nat} {C : List MapEntry} {c : Nat} {ro : Nat → Nat}
/-- The roles with a packet beside the net's. -/
def roPk (ro : Nat → Nat) (pb g : Nat) (k : Nat) : Nat := if k = pb then 4 else if k = g then 5 else ro k
theorem NetAt.roUp (h : NetAt w b most v L mp C c ro) {ro' : Nat → Nat} (h1 : ∀ k, ro k ≠ 0 → ro' k = ro k) (h2 : ∀ k, ro' k ≠ 0 → k < w.heap.size) : NetAt w b most v L mp C c ro' :=
  h.reRow (S := fun _ => False) (Touch.refl _ _) (fun _ _ e => e.elim) h.head h.row h.few.1 (fun _ e => e) h.one h1 h2 (fun k hk => by rw [h1 k (by rw [h.rr k hk]; decide)]; exact h.rr k hk)
/-- A new packet beside the net's. -/
theorem NetAt.beside (h : NetAt w b most v L mp C c ro) {x : Pk} (hp : w.heap[x.pb]? = some (.cells x.cells 125 (0, 0))) (hb : OwnC w 0 x.g x.cap x.bs) (hn : x.bs ≠ [] ∧ x.bs.length ≤ 20000) (h0 : ro x.pb = 0 ∧ ro x.g = 0) (hd : x.pb ≠ x.g) :
    NetAt w b most v L mp C c (roPk ro x.pb x.g) ∧ Beside w L (roPk ro x.pb x.g) x := by
  refine ⟨h.roUp (fun k hk => ?_) (fun k hk => ?_), hp, hb, hn, ⟨by simp [roPk], by simp [roPk, hd.symm]⟩, fun e he => ⟨fun q => ?_, fun q => ?_⟩⟩
  · unfold roPk
    rw [if_neg (by rintro rfl; exact hk h0.1), if_neg (by rintro rfl; exact hk h0.2)]
  · unfold roPk at hk
    split at hk
    · next e => rw [e]; exact heap_lt hp
    · split at hk
      · next e => rw [e]; exact hb.lt
      · exact h.lt k hk
  · have := (h.rp e he).1; rw [q, h0.1] at this; cases this
  · have := (h.rp e he).2; rw [q, h0.2] at this; cases this
theorem ins_end {α : Type} (l : List α) (x : α) : l.insertIdx l.length x = l ++ [x] := by simp
/-- The row with one packet more. -/
theorem napp (h : NetAt w b most v L mp C c ro) {x : Pk} (hx : Beside w L ro x) (hl : L.length + 1 ≤ 1024) {q : Nat} {T : TypeId} {fr : Nat × Nat} (hq : w.heap[q]? = some (.cells #[x.ptr] T fr)) :
    ∃ v' w1 ro', (Builtin.append_ #[98, 98] 98 #[v, .slice (some ⟨q, 0, none⟩) 1 1]).run Tryz.prog w = .ok v' w1 ∧ w1.cell? ⟨b, 1, none⟩ = some v ∧ w1.frozen? ⟨b, 1, none⟩ = false ∧ NetAt (w1.setCell ⟨b, 1, none⟩ v') b most v' (L ++ [x]) mp C c ro' ∧ Step w (w1.setCell ⟨b, 1, none⟩ v') ro ro' ∧ (∃ A n c, v' = .slice A n c) ∧ Touch (fun k => ro k = 3) w w1 := by
  obtain ⟨n, hn⟩ : ∃ n, L.length = n := ⟨_, rfl⟩
  have hpl : (ptrs L).length = n := by rw [List.length_map]; exact hn
  have hro0 := h.row
  rw [hn] at hro0
  obtain ⟨v1, W1, hr1, hrow1, hg1, hblk1⟩ := run_append_row w 98 120 98 98 Tryz.underlying98 infoP1 rfl (by omega) (by omega) v n 1 (ptrs L) [x.ptr] (.slice (some ⟨q, 0, none⟩) 1 1) hro0
    (Src.ofSlice _ Tryz.underlying98 ⟨q, 0, none⟩ 1 1 [x.ptr] rfl (fun k u hu => by
      rw [add0, cell_of hq k]
      simpa using hu) (by simp [Value.oneCell', Pk.ptr])) (by omega)
  have hvb : v.ownBlock ≠ some b := fun e => by have h1 := h.rr b e; have h2 := h.rb; rw [h2] at h1; cases h1
  have hhd1 : W1.heap[b]? = some (.cells #[.int .i64 most, v, .map (some mp)] 100 (0, 0)) := (hg1.block b (heap_lt h.head) (fun e => hvb e.symm)).trans h.head
  rcases hrow1 with ⟨rfl, hz, _⟩ | ⟨g, cap, rfl, hl1, hcap, hrow1⟩
  · omega
  have hgw : v.ownBlock = some g ∨ w.heap.size = g := by
    rcases hblk1 with e | e
    · exact .inl e.symm
    · exact .inr (Option.some.inj e).symm
  have hgb : g ≠ b := fun e => by
    rcases hgw with h1 | h1
    · exact hvb (by rw [h1, e])
    · have := heap_lt h.head; omega
  have hT1 : Touch (fun k => v.ownBlock = some k) w W1 := (Touch.refl _ _).grown hg1 (fun k e _ => e)
  have hT2 : Touch (fun k => v.ownBlock = some k ∨ k = b) w (W1.setCell ⟨b, 1, none⟩ (.slice (some ⟨g, 0, none⟩) (n + 1) cap)) := (hT1.mono (fun _ _ e => .inl e)).setCell ⟨b, 1, none⟩ (fun _ => .inr rfl) _
  have hh2 := set_at hhd1 1 (.slice (some ⟨g, 0, none⟩) (n + 1) cap)
  have hrow2 : RowC (W1.setCell ⟨b, 1, none⟩ (.slice (some ⟨g, 0, none⟩) (n + 1) cap)) 1 g cap (ptrs L ++ [x.ptr]) := hrow1.keep (by simp [World.setCell]) (Below.heap_setCell _ _ _ _ hgb)
  have hgs : ∀ k, k < w.heap.size → k = g → ro k = 3 := fun k hk e => by
    rcases hgw with h1 | h1
    · rw [e]; exact h.rr g h1
    · omega
  have hgr : ∀ k, k < w.heap.size → roRow ro g k = ro k := fun k hk => by
    unfold roRow
    split
    · next e => exact (hgs k hk e).symm
    · rfl
  have hm := h.more hx (Nat.le_refl L.length) hT2 (v' := .slice (some ⟨g, 0, none⟩) (n + 1) cap) (ro' := roRow ro g) (fun k hk e => by
      rcases e with e | e
      · exact .inr (h.rr k e)
      · exact .inl (by rw [e]; exact h.rb)) hh2 (by
      rw [ins_end, List.length_append, List.length_singleton, hn]
      exact .inr ⟨g, cap, rfl, by simp [hpl], hcap, by rw [show ptrs (L ++ [x]) = ptrs L ++ [x.ptr] from by simp [ptrs]]; exact hrow2⟩) hl (fun k hk => hgr k (h.lt k hk)) (fun k hk => by
      unfold roRow at hk
      split at hk
      · next e => rw [e]; exact hrow2.lt
      · exact Nat.lt_of_lt_of_le (h.lt k hk) hT2.size) (fun k hk => by cases hk; unfold roRow; rw [if_pos rfl])
  rw [ins_end] at hm
  exact ⟨_, W1, roRow ro g, hr1, cell_of hhd1 1, free0 hhd1 1, hm, ⟨hT2.mono (fun k hk e => by
      rcases e with e | e
      · rw [h.rr k e]; decide
      · rw [e, h.rb]; decide), hgr⟩, ⟨_, _, _, rfl⟩, hT1.mono (fun k _ e => h.rr k e)⟩
/-- The site of a message. -/
def siteM (m : MsgV) : Int := max m.fr m.tt
/-- What send leaves. -/
def SendP (w : World) (b : Nat) (most : Int) (L : List Pk) (mp : Nat) (C : List MapEntry) (c : Nat) (ro : Nat → Nat) (m : MsgV) (ok : Bool) (w' : World) : Prop :=
  ∃ v' ro' L', NetAt w' b most v' L' mp C c ro' ∧ Step w w' ro ro' ∧ (ok = true → ∃ x, L' = L ++ [x] ∧ x.p = (encM m, siteM m, 0)) ∧ (ok = false → L' = L)
theorem SendP.none {W : World} (h : NetAt w b most v L mp C c ro) (hb : Below w.heap.size w W) {m : MsgV} : SendP w b most L mp C c ro m false W :=
  ⟨v, ro, L, h.below hb, .of_below ro hb, (fun e => by cases e), fun _ => rfl⟩
set_option maxRecDepth 100000 in
set_option maxHeartbeats 4000000 in
theorem nsend_not (hG : Glob w) (h : NetAt w b most v L mp C c ro) {v0 : Value} {m : MsgV} (hm : MsgIs w v0 m) (ha : mayM m = false) : Calls Tryz.prog 56 #[.pointer (some ⟨b, 0, none⟩), v0] w fun e w' => e = .returned (.tuple #[]) ∧ SendP w b most L mp C c ro m false w' := by
  have HMS := Lib.hid (fun W (hW : Below w.heap.size w W) => Encode_not (hG.below hW) (hm.below hW) ha)
  have HFIN := Lib.hid (fun W (hW : Below w.heap.size w W) => SendP.none (m := m) h hW)
  obtain ⟨tA, tc, oA, oc, rfl, ht, ho, hk⟩ := hm
  obtain ⟨kd, fr, tt, g, nd, tr, lw, co, ti, tl, os⟩ := m
  simp only at HMS ht ho hk ⊢
  have hb0 := below_new (w := w) (.cells #[.int .i64 kd, .int .i64 fr, .int .i64 tt, .int .i64 g, .int .i64 nd, .int .i64 tr, .int .i64 lw, .int .i64 co, .int .i64 ti, .slice tA tl.length tc, .slice oA os.length oc] 50)
  have HB0 := Lib.hid hb0
  have hat := alloc_at w (.cells #[.int .i64 kd, .int .i64 fr, .int .i64 tt, .int .i64 g, .int .i64 nd, .int .i64 tr, .int .i64 lw, .int .i64 co, .int .i64 ti, .slice tA tl.length tc, .slice oA os.length oc] 50)
  have m0 := cell_of hat 0
  have m1 := cell_of hat 1
  have m2 := cell_of hat 2
  have m3 := cell_of hat 3
  have m4 := cell_of hat 4
  have m5 := cell_of hat 5
  have m6 := cell_of hat 6
  have m7 := cell_of hat 7
  have m8 := cell_of hat 8
  have m9 := cell_of hat 9
  have m10 := cell_of hat 10
  simp at m0 m1 m2 m3 m4 m5 m6 m7 m8 m9 m10
  clear h hG ha ht ho hk hb0 hat
  go_enter Tryz.func56, Tryz.ntmps56
  go_wp2_with fail
  refine (HMS.out _ HB0.out).mono ?_
  rintro e w1 ⟨rfl, hb1⟩
  have HB1 := Lib.hid (HB0.out.trans (hb1.mono HB0.out.size))
  go_wp2_with fail
  refine bodyPost_ret (results_none rfl _ _ _) rfl ?_
  exact ⟨rfl, HFIN.out _ HB1.out⟩
theorem encM_few {m : MsgV} (hm : mayM m = true) (hi : MsgIn m) : encM m ≠ [] ∧ (encM m).length ≤ 20000 := by
  have h1 := bodyM_le hm hi
  have h2 : (encM m).length = (bodyM m).length + 7 := frameB_len _
  refine ⟨fun e => ?_, ?_⟩
  · rw [e] at h2; simp at h2
  · omega
set_option maxRecDepth 100000 in
set_option maxHeartbeats 4000000 in
theorem nsend_yes (hG : Glob w) (hMv : Mov w) (h : NetAt w b most v L mp C c ro) (hmost : most ≤ 1024) {v0 : Value} {m : MsgV} (hm : MsgIs w v0 m) (ha : mayM m = true) (hin : MsgIn m) (hsr : -9223372036854775808 ≤ siteM m ∧ siteM m ≤ 9223372036854775807) (hno : ∀ e ∈ C, e.key ≠ .int .i64 (siteM m)) :
    Calls Tryz.prog 56 #[.pointer (some ⟨b, 0, none⟩), v0] w fun e w' => e = .returned (.tuple #[]) ∧ SendP w b most L mp C c ro m (decide ((L.length : Int) < most)) w' := by
  have HMS := Lib.hid (fun W (hW : Below w.heap.size w W) (hMv : Mov W) => Encode_yes (hG.below hW) hMv (hm.below hW) ha hin)
  have HMV := Lib.hid (fun W (hW : Below w.heap.size w W) => hMv.below hW)
  have HPA := Lib.hid (fun W (hW : Below w.heap.size w W) => nparted_no (h.below hW) hsr hno)
  have HFU := Lib.hid (fun W (hW : Below w.heap.size w W) => nfull_any (h.below hW))
  have HNO := Lib.hid (fun W (hW : Below w.heap.size w W) => SendP.none (m := m) h hW)
  have HH := Lib.hid h
  have HEN := Lib.hid (encM_few ha hin)
  have HMO := Lib.hid hmost
  obtain ⟨ok, hok⟩ : ∃ ok, decide ((L.length : Int) < most) = ok := ⟨_, rfl⟩
  rw [hok]
  have HOK := Lib.hid hok
  clear hok
  unfold siteM at HPA
  obtain ⟨tA, tc, oA, oc, rfl, ht, ho, hk⟩ := hm
  obtain ⟨kd, fr, tt, g, nd, tr, lw, co, ti, tl, os⟩ := m
  simp only at HMS HPA ht ho hk ⊢
  have hb0 := below_new (w := w) (.cells #[.int .i64 kd, .int .i64 fr, .int .i64 tt, .int .i64 g, .int .i64 nd, .int .i64 tr, .int .i64 lw, .int .i64 co, .int .i64 ti, .slice tA tl.length tc, .slice oA os.length oc] 50)
  have HB0 := Lib.hid hb0
  have HMV0 := Lib.hid (HMV.out _ hb0)
  have hat := alloc_at w (.cells #[.int .i64 kd, .int .i64 fr, .int .i64 tt, .int .i64 g, .int .i64 nd, .int .i64 tr, .int .i64 lw, .int .i64 co, .int .i64 ti, .slice tA tl.length tc, .slice oA os.length oc] 50)
  have m0 := cell_of hat 0
  have m1 := cell_of hat 1
  have m2 := cell_of hat 2
  have m3 := cell_of hat 3
  have m4 := cell_of hat 4
  have m5 := cell_of hat 5
  have m6 := cell_of hat 6
  have m7 := cell_of hat 7
  have m8 := cell_of hat 8
  have m9 := cell_of hat 9
  have m10 := cell_of hat 10
  simp at m0 m1 m2 m3 m4 m5 m6 m7 m8 m9 m10
  clear h hG ha ht ho hk hb0 hat hMv hno hsr hin hmost
  go_enter Tryz.func56, Tryz.ntmps56
  go_wp2_with fail
  refine (HMS.out _ HB0.out HMV0.out).mono ?_
  rintro e w1 ⟨v1, rfl, ho1, hb1⟩
  have HB1 := Lib.hid (HB0.out.trans (hb1.mono HB0.out.size))
  obtain ⟨g1, cp1, rfl, hc1⟩ : ∃ g1 cp1, v1 = .slice (some ⟨g1, 0, none⟩) (encM ⟨kd, fr, tt, g, nd, tr, lw, co, ti, tl, os⟩).length cp1 ∧ OwnC w1 (w.alloc (.cells #[.int .i64 kd, .int .i64 fr, .int .i64 tt, .int .i64 g, .int .i64 nd, .int .i64 tr, .int .i64 lw, .int .i64 co, .int .i64 ti, .slice tA tl.length tc, .slice oA os.length oc] 50)).heap.size g1 cp1 (encM ⟨kd, fr, tt, g, nd, tr, lw, co, ti, tl, os⟩) := by
    rcases ho1 with ⟨_, e⟩ | h
    · exact (HEN.out.1 e).elim
    · exact h
  have HC1 := Lib.hid hc1
  clear ho1 hc1
  obtain ⟨n, hn⟩ : ∃ n, (encM ⟨kd, fr, tt, g, nd, tr, lw, co, ti, tl, os⟩).length = n := ⟨_, rfl⟩
  have HN := Lib.hid hn
  rw [hn]
  have hn0 : ¬ ((n : Int) = 0) := by
    have h1 := HEN.out.1
    intro e
    have e2 : n = 0 := by omega
    rw [e2] at hn
    exact h1 (List.eq_nil_of_length_eq_zero hn)
  clear hn
  go_wp2_with fail
  refine (HPA.out _ HB1.out).mono ?_
  rintro e w2 ⟨rfl, hb2⟩
  have HB2 := Lib.hid (HB1.out.trans (hb2.mono HB1.out.size))
  have HB12 := Lib.hid hb2
  clear hb2
  go_wp2_with fail
  refine (HFU.out _ HB2.out).mono ?_
  rintro e w3 ⟨rfl, hb3⟩
  have HB3 := Lib.hid (HB2.out.trans (hb3.mono HB2.out.size))
  have HB13 := Lib.hid (HB12.out.trans (hb3.mono HB12.out.size))
  clear hb3
  by_cases hfl : most ≤ (L.length : Int)
  · rw [decide_eq_true hfl]
    have hok : ok = false := HOK.out.symm.trans (decide_eq_false (by omega))
    subst hok
    clear hfl
    go_wp2_with fail
    refine bodyPost_ret (results_none rfl _ _ _) rfl ?_
    exact ⟨rfl, HNO.out _ HB3.out⟩
  · rw [decide_eq_false hfl]
    have hok : ok = true := HOK.out.symm.trans (decide_eq_true (by omega))
    subst hok
    have hL : L.length + 1 ≤ 1024 := by have := HMO.out; omega
    obtain ⟨x, hx⟩ : ∃ x : Pk, x = ⟨encM ⟨kd, fr, tt, g, nd, tr, lw, co, ti, tl, os⟩, max fr tt, 0, w3.heap.size, g1, cp1⟩ := ⟨_, rfl⟩
    have hb4 := below_new (w := w3) (.cells #[.slice (some ⟨g1, 0, none⟩) n cp1, .int .i64 (max fr tt), .int .i64 0] 125)
    have hat4 := alloc_at w3 (.cells #[.slice (some ⟨g1, 0, none⟩) n cp1, .int .i64 (max fr tt), .int .i64 0] 125)
    have hb5 := below_new (w := w3.alloc (.cells #[.slice (some ⟨g1, 0, none⟩) n cp1, .int .i64 (max fr tt), .int .i64 0] 125)) (.cells #[.pointer (some ⟨w3.heap.size, 0, none⟩)] 120)
    have hat5 := alloc_at (w3.alloc (.cells #[.slice (some ⟨g1, 0, none⟩) n cp1, .int .i64 (max fr tt), .int .i64 0] 125)) (.cells #[.pointer (some ⟨w3.heap.size, 0, none⟩)] 120)
    rw [asz] at hat5
    have hb45 : Below w.heap.size w ((w3.alloc (.cells #[.slice (some ⟨g1, 0, none⟩) n cp1, .int .i64 (max fr tt), .int .i64 0] 125)).alloc (.cells #[.pointer (some ⟨w3.heap.size, 0, none⟩)] 120)) := HB3.out.trans ((hb4.trans (hb5.mono hb4.size)).mono HB3.out.size)
    have hb35 : Below w3.heap.size w3 ((w3.alloc (.cells #[.slice (some ⟨g1, 0, none⟩) n cp1, .int .i64 (max fr tt), .int .i64 0] 125)).alloc (.cells #[.pointer (some ⟨w3.heap.size, 0, none⟩)] 120)) := hb4.trans (hb5.mono hb4.size)
    have hg1 : w.heap.size ≤ g1 ∧ g1 < w3.heap.size := ⟨Nat.le_trans HB0.out.size HC1.out.new, Nat.lt_of_lt_of_le HC1.out.lt HB13.out.size⟩
    have hro0 : ∀ k, w.heap.size ≤ k → ro k = 0 := fun k hk => by
      by_cases h0 : ro k = 0
      · exact h0
      · have := HH.out.lt k h0; omega
    have hbes := (HH.out.below hb45).beside (x := x) (by
      rw [hx]
      show _ = some (Obj.cells #[.slice (some ⟨g1, 0, none⟩) (encM ⟨kd, fr, tt, g, nd, tr, lw, co, ti, tl, os⟩).length cp1, .int .i64 (max fr tt), .int .i64 0] 125 (0, 0))
      rw [HN.out]
      exact (hb5.block _ (heap_lt hat4)).trans hat4) (by
      rw [hx]
      exact ((HC1.out.lower').keep HB13.out.size (HB13.out.block _ HC1.out.lt)).keep hb35.size (hb35.block _ hg1.2)) (by rw [hx]; exact HEN.out) (by
      rw [hx]
      exact ⟨hro0 _ HB3.out.size, hro0 _ hg1.1⟩) (by rw [hx]; show w3.heap.size ≠ g1; omega)
    obtain ⟨v', w6, ro', hr6, hc6, hf6, hn6, hst6, ⟨A6, n6, c6, rfl⟩, _⟩ := napp hbes.1 hbes.2 hL (q := w3.heap.size + 1) (by rw [hx]; exact hat5)
    have hcb : w3.cell? ⟨b, 1, none⟩ = some v := (HH.out.below HB3.out).cell1
    have HFIN : Hid (SendP w b most L mp C c ro ⟨kd, fr, tt, g, nd, tr, lw, co, ti, tl, os⟩ true (w6.setCell ⟨b, 1, none⟩ (.slice A6 n6 c6))) := Lib.hid ⟨_, ro', L ++ [x], hn6, ⟨((Touch.of_below hb45 : Touch (fun k => ro k ≠ 0) _ _)).trans hst6.1 (fun k hk e => by
        have h1 : roPk ro x.pb x.g k = ro k := by
          unfold roPk
          rw [hx, if_neg (by show ¬ k = w3.heap.size; have := HB3.out.size; omega), if_neg (by show ¬ k = g1; omega)]
        rw [h1] at e
        exact e), fun k hk => by
        rw [hst6.2 k (Nat.lt_of_lt_of_le hk hb45.size)]
        unfold roPk
        rw [hx, if_neg (by show ¬ k = w3.heap.size; have := HB3.out.size; omega), if_neg (by show ¬ k = g1; omega)]⟩, fun _ => ⟨x, rfl, by rw [hx]; rfl⟩, fun e => by cases e⟩
    clear hfl hL hx hb4 hat4 hb5 hat5 hb45 hb35 hg1 hro0 hbes hn6 hst6
    go_wp2_with (at_builtin; refine wpList_app_run rfl _ _ _ _ rfl rfl rfl hr6 ?_)
    go_end0
    exact ⟨rfl, HFIN.out⟩
end
end Go.Proofs.YtfddlhcdlgdofaaGreatDoor

namespace Go.Proofs.YtfddlhcdlgdofaaGreatDoor
open Go.RowKit Go.Shelf
section
variable {w : World} {b : Nat} {most : Int} {v : Value} {L : List Pk} {mp : Nat} {C : List MapEntry} {c : Nat} {ro : Nat → Nat}
/-- Send of one message, in plain words. -/
def sendL (most : Int) (P : List P3) (m : MsgV) : List P3 := if mayM m = true ∧ (P.length : Int) < most then P ++ [(encM m, siteM m, 0)] else P
/-- What a message must be so that it may be sent here. -/
def SendOk (C : List MapEntry) (m : MsgV) : Prop := mayM m = true → MsgIn m ∧ (-9223372036854775808 ≤ siteM m ∧ siteM m ≤ 9223372036854775807) ∧ ∀ e ∈ C, e.key ≠ .int .i64 (siteM m)
/-- A call that leaves the packets P. -/
def NetP (w : World) (b : Nat) (most : Int) (mp : Nat) (C : List MapEntry) (c : Nat) (ro : Nat → Nat) (P : List P3) (w' : World) : Prop :=
  ∃ v' ro' L', NetAt w' b most v' L' mp C c ro' ∧ Step w w' ro ro' ∧ L'.map Pk.p = P
theorem nsend_any (hG : Glob w) (hMv : Mov w) (h : NetAt w b most v L mp C c ro) (hmost : most ≤ 1024) {v0 : Value} {m : MsgV} (hm : MsgIs w v0 m) (hok : SendOk C m) :
    Calls Tryz.prog 56 #[.pointer (some ⟨b, 0, none⟩), v0] w fun e w' => e = .returned (.tuple #[]) ∧ NetP w b most mp C c ro (sendL most (L.map Pk.p) m) w' := by
  cases ha : mayM m with
  | false =>
    refine (nsend_not hG h hm ha).mono ?_
    rintro e w' ⟨rfl, v', ro', L', h1, h2, _, h3⟩
    refine ⟨rfl, v', ro', L', h1, h2, ?_⟩
    rw [h3 rfl, sendL, if_neg (by rw [ha]; rintro ⟨e, _⟩; cases e)]
  | true =>
    obtain ⟨hi, hr, hno⟩ := hok ha
    refine (nsend_yes hG hMv h hmost hm ha hi hr hno).mono ?_
    rintro e w' ⟨rfl, v', ro', L', h1, h2, h3, h4⟩
    refine ⟨rfl, v', ro', L', h1, h2, ?_⟩
    by_cases hl : (L.length : Int) < most
    · obtain ⟨x, rfl, hx⟩ := h3 (decide_eq_true hl)
      rw [sendL, if_pos ⟨ha, by rw [List.length_map]; exact hl⟩, List.map_append, ← hx]
      rfl
    · rw [h4 (decide_eq_false hl), sendL, if_neg (by rw [List.length_map]; exact fun e => hl e.2)]
theorem nSend_nil {A : Value} : Calls Tryz.prog 18 #[.pointer none, A] w fun e w' => e = .returned (.int .i64 0) ∧ w' = w := by
  have HN := Lib.hid (nnone_nil w)
  go_enter Tryz.func18, Tryz.ntmps18
  go_wp2_with fail
  refine (HN.out).mono ?_
  rintro e w1 ⟨rfl, rfl⟩
  go_wp2_with fail
  go_ret
  exact ⟨rfl, rfl⟩
set_option maxRecDepth 100000 in
set_option maxHeartbeats 4000000 in
theorem nSend_any (hG : Glob w) (hMv : Mov w) (h0 : ro 1 = 0 ∧ ro 0 = 0) (h : NetAt w b most v L mp C c ro) (hmost : most ≤ 1024) {g cap : Nat} {ms : List MsgV} (hle : ms.length ≤ cap) (hlen : ms.length ≤ 1000)
    (hms : ∀ (i : Nat) (m : MsgV), ms[i]? = some m → SendOk C m ∧ ∃ tA tc oA oc, ∀ W ro', Step w W ro ro' → M11 W ⟨g, i * 11, none⟩ m tA tc oA oc ∧ MsgIs W (.agg (msgCells m tA tc oA oc)) m) :
    Calls Tryz.prog 18 #[.pointer (some ⟨b, 0, none⟩), .slice (some ⟨g, 0, none⟩) ms.length cap] w fun e w' => ∃ P, e = .returned (.int .i64 ((P.length : Int) - (L.length : Int))) ∧ NetP w b most mp C c ro P w' ∧ P = ms.foldl (sendL most) (L.map Pk.p) := by
  obtain ⟨n, hn⟩ : ∃ n, ms.length = n := ⟨_, rfl⟩
  rw [hn] at hle hlen ⊢
  have HNO := Lib.hid (nnone_any h.head)
  have HLE := Lib.hid (nlen_any h)
  have HH := Lib.hid h
  have HMS := Lib.hid hms
  have HN := Lib.hid hn
  have HG : Hid (∀ W ro', Step w W ro ro' → Glob W ∧ Mov W) := Lib.hid (fun W ro' hs => ⟨hG.touch hs.1 (fun e => e h0.1), fun r t ht => (World.cell?_of_block (a := ⟨0, r, none⟩) (hs.1.block _ hMv.lt (fun e => e h0.2))).trans (hMv r t ht)⟩)
  have HMO := Lib.hid hmost
  clear h hms hn hG hMv h0 hmost
  go_enter Tryz.func18, Tryz.ntmps18
  go_wp2_with fail
  refine (HNO.out).mono ?_
  rintro e w1 ⟨rfl, rfl⟩
  go_wp2_with fail
  refine (HLE.out).mono ?_
  rintro e w1 ⟨rfl, rfl⟩
  go_wp2_with fail
  go_loopw [14] (fun iv wr => ∃ (k : Nat) (v' : Value) (ro' : Nat → Nat) (L' : List Pk), k ≤ n ∧ iv = .int .i64 k ∧ NetAt wr b most v' L' mp C c ro' ∧ Step w1 wr ro ro' ∧ L'.map Pk.p = (ms.take k).foldl (sendL most) (L.map Pk.p)) (fun iv _ => n - (intOf iv).toNat)
  case atStart => exact ⟨0, v, ro, L, by omega, rfl, HH.out, Step.refl _ _, by simp⟩
  case round =>
    obtain ⟨k, v', ro', L', hk, rfl, hnet, hst, hP⟩ := hrel
    have HS := Lib.hid (And.intro hnet (And.intro hst hP))
    clear hnet hst hP
    by_cases hlt : k < n
    · have hx : ms[k]? = some (ms[k]'(by have := HN.out; omega)) := List.getElem?_eq_getElem _
      generalize ms[k]'(by have := HN.out; omega) = m at hx
      have HX := Lib.hid hx
      obtain ⟨hok, tA, tc, oA, oc, hms⟩ := HMS.out k m hx
      have HOK := Lib.hid hok
      have HMSW := Lib.hid hms
      have hm11 := (hms _ _ HS.out.2.1).1
      obtain ⟨a0, a1, a2, a3, a4, a5, a6, a7, a8, a9, a10⟩ := hm11
      have HLT := Lib.hid hlt
      clear hx hok hms
      have hb1 := below_new (w := wr) (.cells (msgCells m tA tc oA oc) 50)
      have hst1 := HS.out.2.1.after hb1
      have HSE := Lib.hid (nsend_any (HG.out _ _ hst1).1 (HG.out _ _ hst1).2 (HS.out.1.below hb1) HMO.out (HMSW.out _ _ hst1).2 HOK.out)
      have HST1 := Lib.hid hst1
      unfold msgCells at HSE HST1
      clear hb1 hst1
      go_wp2_with fail
      refine (HSE.out).mono ?_
      rintro e w2 ⟨rfl, v2, ro2, L2, hn2, hs2, hp2⟩
      have HS2 := Lib.hid (And.intro hn2 (And.intro (HST1.out.trans hs2) hp2))
      clear hn2 hs2 hp2 a0 a1 a2 a3 a4 a5 a6 a7 a8 a9 a10
      have hwk : IntKind.i64.wrap ((k : Int) + 1) = (k : Int) + 1 := IntWalk.i64_in _ (by omega)
      go_wp2_with fail
      go_roundw
      case rel =>
        refine ⟨k + 1, v2, ro2, L2, HLT.out, by go_num, HS2.out.1, HS2.out.2.1, ?_⟩
        rw [HS2.out.2.2, HS.out.2.2, List.take_add_one, HX.out, List.foldl_append]
        rfl
      case measure => have := HLT.out; simp [intOf]; omega
    · obtain rfl : k = n := by omega
      have HLE2 := Lib.hid (nlen_any HS.out.1)
      go_wp2_with fail
      refine (HLE2.out).mono ?_
      rintro e w2 ⟨rfl, rfl⟩
      have hw1 := HS.out.1.few.1
      have hw2 := HH.out.few.1
      have hwr : IntKind.i64.wrap ((L'.length : Int) - (L.length : Int)) = (L'.length : Int) - (L.length : Int) := IntWalk.i64_in _ (by omega)
      clear hw1 hw2
      go_wp2_with fail
      go_ret
      have h3 := HS.out.2.2
      rw [List.take_of_length_le (by rw [HN.out]; exact Nat.le_refl _)] at h3
      exact ⟨L'.map Pk.p, by rw [List.length_map]; rfl, ⟨_, _, _, HS.out.1, HS.out.2.1, rfl⟩, h3⟩
end
end Go.Proofs.YtfddlhcdlgdofaaGreatDoor
