/- Lists of a message wherever they lie, and beside what is turned; slices.Clone of numbers and of operations. The net of packets in memory. The net: find, take. The net: take. -/
import Derived.Test.YtmbonngjkgcijaaGreatDoorZMegA
import Derived.Test.YtmbonngjkgcijaaGreatDoorZBasA
set_option linter.unusedSimpArgs false
set_option linter.unusedVariables false
set_option linter.unnecessarySimpa false
namespace Go.Proofs.YtmbonngjkgcijaaGreatDoor
open Go.RowKit Go.Shelf

theorem NumsAt.touch {S : Nat → Prop} {w w' : World} {A : Option Addr} {n c : Nat} {l : List Int} (h : NumsAt w (.slice A n c) l) (ht : Touch S w w') (hS : l ≠ [] → ∀ a, A = some a → ¬ S a.block) : NumsAt w' (.slice A n c) l := by
  obtain ⟨A', c', e, h1, h2, h3⟩ := h
  refine ⟨A', c', e, h1, h2, fun i x hi => ?_⟩
  obtain ⟨a, q1, q2, q3⟩ := h3 i x hi
  have hA : A = A' := by injection e
  refine ⟨a, q1, Nat.lt_of_lt_of_le q2 ht.size, ?_⟩
  rw [World.cell?_of_block (a := a.add i) (w := w) (w' := w') (by rw [add_block]; exact ht.block _ q2 (hS (by rintro rfl; simp at hi) a (hA.trans q1)))]
  exact q3
theorem OpsAt.touch {S : Nat → Prop} {w w' : World} {A : Option Addr} {n c : Nat} {l : List OpV} (h : OpsAt w (.slice A n c) l) (ht : Touch S w w') (hS : l ≠ [] → ∀ a, A = some a → ¬ S a.block) : OpsAt w' (.slice A n c) l := by
  obtain ⟨A', c', e, h1, h2, h3⟩ := h.form
  refine ⟨A', c', e, h1, h2, fun i x hi => ?_⟩
  obtain ⟨a, q1, q2, q3, q4, q5, q6⟩ := h3 i x hi
  have hA : A = A' := by injection e
  have hk : w'.heap[(a.add (i * 4)).block]? = w.heap[(a.add (i * 4)).block]? := by rw [add_block]; exact ht.block _ q2 (hS (by rintro rfl; simp at hi) a (hA.trans q1))
  refine ⟨a, q1, Nat.lt_of_lt_of_le q2 ht.size, ?_, ?_, ?_, ?_⟩
  · rw [World.cell?_of_block (a := a.add (i * 4)) hk]; exact q3
  · rw [World.cell?_of_block (a := ⟨(a.add (i * 4)).block, (a.add (i * 4)).off + 1, none⟩) hk]; exact q4
  · rw [World.cell?_of_block (a := ⟨(a.add (i * 4)).block, (a.add (i * 4)).off + 2, none⟩) hk]; exact q5
  · rw [World.cell?_of_block (a := ⟨(a.add (i * 4)).block, (a.add (i * 4)).off + 3, none⟩) hk]; exact q6
end Go.Proofs.YtmbonngjkgcijaaGreatDoor

namespace Go.Proofs.YtmbonngjkgcijaaGreatDoor
open Go.RowKit Go.Shelf
open Go.Maps (Keyed)

/-- A packet: its bytes, site and wait; and where it lies. -/
structure Pk where
  bs : List UInt8
  site : Int
  waits : Int
  pb : Nat
  g : Nat
  cap : Nat
def Pk.v (e : Pk) : Value := .slice (some ⟨e.g, 0, none⟩) e.bs.length e.cap
def Pk.cells (e : Pk) : Array Value := #[e.v, .int .i64 e.site, .int .i64 e.waits]
def Pk.ptr (e : Pk) : Value := .pointer (some ⟨e.pb, 0, none⟩)
/-- A packet in plain words. -/
abbrev P3 := List UInt8 × Int × Int
def Pk.p (e : Pk) : P3 := (e.bs, e.site, e.waits)
abbrev ptrs (L : List Pk) : List Value := L.map Pk.ptr
/-- A net: its bound, the row of its packets, the sites that are cut off; ro tells what each of its blocks is for: 1 the net's own, 2 the map, 3 rows, 4 packets, 5 bytes. -/
structure NetAt (W : World) (b : Nat) (most : Int) (v : Value) (L : List Pk) (mp : Nat) (C : List MapEntry) (c : Nat) (ro : Nat → Nat) : Prop where
  head : W.heap[b]? = some (.cells #[.int .i64 most, v, .map (some mp)] 100 (0, 0))
  row : RowIs W 1 v L.length (ptrs L)
  pk : ∀ e ∈ L, W.heap[e.pb]? = some (.cells e.cells 125 (0, 0))
  by_ : ∀ e ∈ L, OwnC W 0 e.g e.cap e.bs
  few : L.length ≤ 1024 ∧ ∀ e ∈ L, e.bs ≠ [] ∧ e.bs.length ≤ 20000
  map : MapIs Tryz.prog 3 W mp C c
  rb : ro b = 1
  rm : ro mp = 2
  rr : ∀ k, v.ownBlock = some k → ro k = 3
  rp : ∀ e ∈ L, ro e.pb = 4 ∧ ro e.g = 5
  lt : ∀ k, ro k ≠ 0 → k < W.heap.size
  onep : ∀ (i j : Nat) (x y : Pk), L[i]? = some x → L[j]? = some y → x.pb = y.pb → i = j
  oneg : ∀ (i j : Nat) (x y : Pk), L[i]? = some x → L[j]? = some y → x.g = y.g → i = j
theorem OwnC.lower' {w : World} {B g cap : Nat} {l : List UInt8} (h : OwnC w B g cap l) : OwnC w 0 g cap l := ⟨Nat.zero_le _, h.lt, h.le, h.max, h.holds, h.there⟩
section
variable {W W' : World} {b : Nat} {most : Int} {v : Value} {L : List Pk} {mp : Nat} {C : List MapEntry} {c : Nat} {ro : Nat → Nat}
theorem NetAt.keep (h : NetAt W b most v L mp C c ro) {S : Nat → Prop} (ht : Touch S W W') (hS : ∀ k, S k → ro k = 0) : NetAt W' b most v L mp C c ro where
  head := (ht.block b (heap_lt h.head) (fun e => by have := hS b e; have := h.rb; omega)).trans h.head
  row := h.row.touch ht (fun g hg e => by have := hS g e; have := h.rr g hg; omega)
  pk := fun e he => (ht.block _ (heap_lt (h.pk e he)) (fun q => by have := hS _ q; have := (h.rp e he).1; omega)).trans (h.pk e he)
  by_ := fun e he => (h.by_ e he).keep ht.size (ht.block _ (h.by_ e he).lt (fun q => by have := hS _ q; have := (h.rp e he).2; omega))
  few := h.few
  map := h.map.keep (ht.block mp h.map.lt (fun e => by have := hS mp e; have := h.rm; omega))
  rb := h.rb
  rm := h.rm
  rr := h.rr
  rp := h.rp
  lt := fun k hk => Nat.lt_of_lt_of_le (h.lt k hk) ht.size
  onep := h.onep
  oneg := h.oneg
theorem NetAt.below (h : NetAt W b most v L mp C c ro) (hb : Below W.heap.size W W') : NetAt W' b most v L mp C c ro :=
  h.keep (S := fun _ => False) (.of_below hb) (fun _ h => h.elim)
theorem NetAt.cell1 (h : NetAt W b most v L mp C c ro) : W.cell? ⟨b, 1, none⟩ = some v := cell_of h.head 1
end
/-! none, within -/
set_option maxRecDepth 100000 in
theorem nnone_any {w : World} {b : Nat} {x y : Value} {mp : Nat} {T : TypeId} {fr : Nat × Nat} (h : w.heap[b]? = some (.cells #[x, y, .map (some mp)] T fr)) : Calls Tryz.prog 54 #[.pointer (some ⟨b, 0, none⟩)] w fun e w' => e = .returned (.bool false) ∧ w' = w := by
  have hc : w.cell? ⟨b, 2, none⟩ = some (.map (some mp)) := cell_of h 2
  have qT : ∀ (w : World), (binOp .eql 97 (.map (some mp)) (.map none)).run Tryz.prog w = .ok (.bool false) w := fun w => run_eql_map_nil w _ _ _ (some mp) Tryz.underlying97
  clear h
  go_enter Tryz.func54, Tryz.ntmps54
  go_wp2
  go_ret
  exact ⟨rfl, rfl⟩
set_option maxRecDepth 100000 in
theorem nwithin_ok {w : World} {lo hi n : Int} (h1 : lo ≤ n) (h2 : n ≤ hi) : Calls Tryz.prog 47 #[.int .i64 lo, .int .i64 hi, .int .i64 n] w fun e w' => e = .returned .nilIface ∧ w' = w := by
  have HN := Lib.hid (new_num 2 (by decide) w)
  have q1 : decide (n < lo) = false := by simp; omega
  have q2 : decide (n > hi) = false := by simp; omega
  clear h1 h2
  go_enter Tryz.func47, Tryz.ntmps47
  go_wp2_with fail
  refine (HN.out).mono ?_
  rintro e w1 ⟨rfl, rfl⟩
  go_wp2
  go_ret
  exact ⟨rfl, rfl⟩
/-- An error of a number: not nil, and what it tells. -/
def ErrN (n : Int) (w : World) (v : Value) (w' : World) : Prop := (∃ t u, v = .iface t u) ∧ (∃ ch, ErrIs w' ch v ∧ NumOk ch ∧ ch.length < 900 ∧ codeOf ch = n) ∧ Below w.heap.size w w'
set_option maxRecDepth 100000 in
theorem nwithin_no {w : World} {lo hi n : Int} (h : ¬ (lo ≤ n ∧ n ≤ hi)) : Calls Tryz.prog 47 #[.int .i64 lo, .int .i64 hi, .int .i64 n] w fun e w' => ∃ v, e = .returned v ∧ ErrN 2 w v w' := by
  have HN := Lib.hid (new_num 2 (by decide) w)
  by_cases hlt : n < lo
  · have q1 : decide (n < lo) = true := by simp; omega
    have HB := Lib.hid (bound_some lo n 159 (.agg #[.int .i64 2]) w)
    clear h hlt
    go_enter Tryz.func47, Tryz.ntmps47
    go_wp2_with fail
    refine (HN.out).mono ?_
    rintro e w1 ⟨rfl, rfl⟩
    go_wp2_with fail
    refine (HB.out).mono ?_
    rintro e w2 ⟨rfl, rfl⟩
    go_wp2
    go_ret
    exact ⟨_, rfl, ⟨_, _, rfl⟩, ⟨[.bnd lo n, .num 2], ⟨by simp, _, _, rfl, alloc_at _ _, rfl, rfl⟩, numOk_cons (by simp) (numOk_one (by decide)), by simp, rfl⟩, below_new _⟩
  · have q1 : decide (n < lo) = false := by simp; omega
    have q2 : decide (n > hi) = true := by simp; omega
    have HB := Lib.hid (bound_some hi n 159 (.agg #[.int .i64 2]) w)
    clear h hlt
    go_enter Tryz.func47, Tryz.ntmps47
    go_wp2_with fail
    refine (HN.out).mono ?_
    rintro e w1 ⟨rfl, rfl⟩
    go_wp2_with fail
    refine (HB.out).mono ?_
    rintro e w2 ⟨rfl, rfl⟩
    go_wp2
    go_ret
    exact ⟨_, rfl, ⟨_, _, rfl⟩, ⟨[.bnd hi n, .num 2], ⟨by simp, _, _, rfl, alloc_at _ _, rfl, rfl⟩, numOk_cons (by simp) (numOk_one (by decide)), by simp, rfl⟩, below_new _⟩
set_option maxRecDepth 100000 in
theorem nnew_ok {w : World} {most : Int} (h1 : 1 ≤ most) (h2 : most ≤ 1024) : Calls Tryz.prog 11 #[.int .i64 most] w fun e w' => ∃ b mp ro, e = .returned (.tuple #[.pointer (some ⟨b, 0, none⟩), .int .i64 0]) ∧ NetAt w' b most (.slice none 0 0) [] mp [] 0 ro ∧ (∀ k, ro k ≠ 0 → w.heap.size ≤ k) ∧ Below w.heap.size w w' := by
  have HW := Lib.hid (nwithin_ok (w := w) h1 h2)
  have hmm := @run_makeMap Tryz.prog
  clear h1 h2
  go_enter Tryz.func11, Tryz.ntmps11
  go_wp2_with fail
  refine (HW.out).mono ?_
  rintro e w1 ⟨rfl, rfl⟩
  go_wp2_with fail
  refine bodyPost_ret (v := .tuple #[.pointer (some ⟨w1.heap.size + 1, 0, none⟩), .int .i64 0]) (by simp [results, Tryz.results11, go_sem]) rfl ?_
  have hb : Below w1.heap.size w1 ((w1.alloc (.map #[] 0)).alloc (.cells #[.int .i64 most, .slice none 0 0, .map (some w1.heap.size)] 100)) := (below_new _).trans ((below_new _).mono (by rw [asz]; exact Nat.le_succ _))
  have hro : ∀ k, (if k = w1.heap.size + 1 then 1 else if k = w1.heap.size then 2 else 0) ≠ 0 → w1.heap.size ≤ k ∧ k < w1.heap.size + 2 := by
    intro k hk
    by_cases e1 : k = w1.heap.size + 1
    · omega
    · rw [if_neg e1] at hk
      by_cases e2 : k = w1.heap.size
      · omega
      · rw [if_neg e2] at hk; exact absurd rfl hk
  refine ⟨w1.heap.size + 1, w1.heap.size, fun k => if k = w1.heap.size + 1 then 1 else if k = w1.heap.size then 2 else 0, rfl, ⟨?_, RowIs.nil _ _, by simp, by simp, ⟨by simp, by simp⟩, ?_, by simp, by simp, fun k h => (by cases h), by simp, fun k hk => ?_, by simp, by simp⟩, fun k hk => (hro k hk).1, hb⟩
  · have := alloc_at (w1.alloc (.map #[] 0)) (.cells #[.int .i64 most, .slice none 0 0, .map (some w1.heap.size)] 100)
    rwa [asz] at this
  · exact (MapIs.made Tryz.prog 3 w1).keep ((below_new _).block _ (by rw [asz]; exact Nat.lt_succ_self _))
  · have := (hro k hk).2
    rw [asz, asz]
    exact this
section
variable {w : World} {b : Nat} {most : Int} {v : Value} {L : List Pk} {mp : Nat} {C : List MapEntry} {c : Nat} {ro : Nat → Nat}
set_option maxRecDepth 100000 in
theorem nlen_any (h : NetAt w b most v L mp C c ro) : Calls Tryz.prog 16 #[.pointer (some ⟨b, 0, none⟩)] w fun e w' => e = .returned (.int .i64 L.length) ∧ w' = w := by
  have HN := Lib.hid (nnone_any h.head)
  have hc := h.cell1
  obtain ⟨A, cp, rfl, _⟩ := h.row.form
  clear h
  go_enter Tryz.func16, Tryz.ntmps16
  go_wp2_with fail
  refine (HN.out).mono ?_
  rintro e w1 ⟨rfl, rfl⟩
  go_wp2_with fail
  go_ret
  exact ⟨rfl, rfl⟩
set_option maxRecDepth 100000 in
set_option maxHeartbeats 4000000 in
theorem nfull_any (h : NetAt w b most v L mp C c ro) : Calls Tryz.prog 72 #[.pointer (some ⟨b, 0, none⟩)] w fun e w' => e = .returned (.bool (decide (most ≤ (L.length : Int)))) ∧ Below w.heap.size w w' := by
  obtain ⟨A, cp, rfl, _⟩ := h.row.form
  have HC : Hid (∀ W, Below w.heap.size w W → W.cell? ⟨b, 0, none⟩ = some (.int .i64 most) ∧ W.cell? ⟨b, 1, none⟩ = some (.slice A L.length cp)) := Lib.hid (fun W hW => ⟨cell_of (h.below hW).head 0, cell_of (h.below hW).head 1⟩)
  clear h
  go_enter Tryz.func72, Tryz.ntmps72
  go_wp2_with fail
  refine wp_only ?_
  refine wp_region_held_drew (S := fun W => W.cell? ⟨b, 0, none⟩ = some (.int .i64 most) ∧ W.cell? ⟨b, 1, none⟩ = some (.slice A L.length cp)) (by kernel_rfl) (HC.out _ (below_drew (Below.refl _ _))) (fun hHeld => ?_)
  refine tkH (i := 0) (oi := { dst := some 3, op := .move (.tmp 0), type := 23, pos := "net.go:135", after := #[], guard := none }) (v := ?vv1) ?hy1 ?rest1
  case hy1 => (refine Or.inl ⟨by rfl, ?_⟩; intro W hSw; (try dsimp only at hSw); go_simp; (try with_reducible rfl))
  try simp only [Act.put, pzz]
  refine tkH (i := 1) (oi := { dst := some 4, op := .nilCheck (.tmp 3), type := 0, pos := "net.go:135", after := #[⟨0, .data⟩], guard := none }) (v := ?vv2) ?hy2 ?rest2
  case hy2 => (refine Or.inl ⟨by rfl, ?_⟩; intro W hSw; (try dsimp only at hSw); go_simp; (try with_reducible rfl))
  try simp only [Act.put, pzz]
  refine tkH (i := 2) (oi := { dst := some 5, op := .fieldAddr 100 (.tmp 4) 1, type := 0, pos := "net.go:135", after := #[⟨1, .data⟩], guard := none }) (v := ?vv3) ?hy3 ?rest3
  case hy3 => (refine Or.inl ⟨by rfl, ?_⟩; intro W hSw; (try dsimp only at hSw); go_simp; (try with_reducible rfl))
  try simp only [Act.put, pzz]
  refine tkH (i := 3) (oi := { dst := some 6, op := .load 98 (.tmp 5), type := 98, pos := "net.go:135", after := #[⟨2, .data⟩], guard := none }) (v := ?vv4) ?hy4 ?rest4
  case hy4 => (refine Or.inl ⟨by rfl, ?_⟩; intro W hSw; (try dsimp only at hSw); go_simp; (try with_reducible rfl))
  try simp only [Act.put, pzz]
  refine tkH (i := 4) (oi := { dst := some 7, op := .call { callee := .builtin .len, args := #[.tmp 6], argTypes := #[98] }, type := 3, pos := "net.go:135", after := #[⟨3, .data⟩], guard := none }) (v := ?vv5) ?hy5 ?rest5
  case hy5 => (refine Or.inl ⟨by rfl, ?_⟩; intro W hSw; (try dsimp only at hSw); go_simp; (try with_reducible rfl))
  try simp only [Act.put, pzz]
  refine tkH (i := 5) (oi := { dst := some 8, op := .move (.tmp 0), type := 23, pos := "net.go:135", after := #[], guard := none }) (v := ?vv6) ?hy6 ?rest6
  case hy6 => (refine Or.inl ⟨by rfl, ?_⟩; intro W hSw; (try dsimp only at hSw); go_simp; (try with_reducible rfl))
  try simp only [Act.put, pzz]
  refine tkH (i := 6) (oi := { dst := some 9, op := .nilCheck (.tmp 8), type := 0, pos := "net.go:135", after := #[⟨5, .data⟩], guard := none }) (v := ?vv7) ?hy7 ?rest7
  case hy7 => (refine Or.inl ⟨by rfl, ?_⟩; intro W hSw; (try dsimp only at hSw); go_simp; (try with_reducible rfl))
  try simp only [Act.put, pzz]
  refine tkH (i := 7) (oi := { dst := some 10, op := .fieldAddr 100 (.tmp 9) 0, type := 0, pos := "net.go:135", after := #[⟨6, .data⟩], guard := none }) (v := ?vv8) ?hy8 ?rest8
  case hy8 => (refine Or.inl ⟨by rfl, ?_⟩; intro W hSw; (try dsimp only at hSw); go_simp; (try with_reducible rfl))
  try simp only [Act.put, pzz]
  refine tkH (i := 8) (oi := { dst := some 11, op := .load 3 (.tmp 10), type := 3, pos := "net.go:135", after := #[⟨7, .data⟩], guard := none }) (v := ?vv9) ?hy9 ?rest9
  case hy9 => (refine Or.inl ⟨by rfl, ?_⟩; intro W hSw; (try dsimp only at hSw); go_simp; (try with_reducible rfl))
  try simp only [Act.put, pzz]
  refine tkH (i := 9) (oi := { dst := some 12, op := .binOp .geq 3 (.tmp 7) (.tmp 11) 3, type := 4, pos := "net.go:135", after := #[⟨4, .data⟩, ⟨8, .data⟩], guard := none }) (v := ?vv10) ?hy10 ?rest10
  case hy10 => (refine Or.inl ⟨by rfl, ?_⟩; intro W hSw; (try dsimp only at hSw); go_simp; (try with_reducible rfl))
  try simp only [Act.put, pzz]
  refine tkH (i := 10) (oi := { dst := some 2, op := .assign (.tmp 12), type := 4, pos := "net.go:135", after := #[⟨9, .data⟩, ⟨0, .phase⟩, ⟨1, .phase⟩, ⟨2, .phase⟩, ⟨3, .phase⟩, ⟨4, .phase⟩, ⟨5, .phase⟩, ⟨6, .phase⟩, ⟨7, .phase⟩, ⟨8, .phase⟩, ⟨9, .phase⟩], guard := none }) (v := ?vv11) ?hy11 ?rest11
  case hy11 => (refine Or.inl ⟨by rfl, ?_⟩; intro W hSw; (try dsimp only at hSw); go_simp; (try with_reducible rfl))
  try simp only [Act.put, pzz]
  refine wpAnyH_done (by kernel_rfl) ?_ _
  clear hHeld
  dsimp only [onlyN]
  have HB2 := Lib.hid (below_drew (Below.refl w.heap.size w))
  go_wp2_with fail
  go_ret
  exact ⟨rfl, HB2.out⟩
end
end Go.Proofs.YtmbonngjkgcijaaGreatDoor

namespace Go.Proofs.YtmbonngjkgcijaaGreatDoor
open Go.RowKit Go.Shelf

theorem ncopy_off {P : Program} (w : World) (dT sT ty elem : TypeId) (z g p dn dc h q sn sc k : Nat) (l : List Value)
    (hu : P.underlying dT = some (.slice elem)) (hs : (P.info? elem).map (·.size) = some z) (hk : Nat.min sn dn = k) (hl : l.length = k * z)
    (hsrc : ∀ j v, l[j]? = some v → w.cell? ⟨h, q + j, none⟩ = some v) (hc : ∀ j, j < l.length → (w.cell? ⟨g, p + j, none⟩).isSome = true) (hf : ∀ j, j < l.length → w.frozen? ⟨g, p + j, none⟩ = false) (h1 : ∀ v ∈ l, v.oneCell' = true) :
    (Builtin.copy_ #[dT, sT] ty #[.slice (some ⟨g, p, none⟩) dn dc, .slice (some ⟨h, q, none⟩) sn sc]).run P w = .ok (.int .i64 k) (w.setCells g p l) := by
  have hf0 := run_firstCells_some (P := P) w z k ⟨h, q, none⟩ sn sc l hl (fun j v hj => by
    have hadd : (⟨h, q, none⟩ : Addr).add j = ⟨h, q + j, none⟩ := by unfold Addr.add; split <;> simp_all
    rw [hadd]; exact hsrc j v hj)
  have hst := run_storeCells_cells (P := P) g p l 0 w (fun j hj => by rw [Nat.add_zero]; exact hc j hj) (fun j hj => by rw [Nat.add_zero]; exact hf j hj) h1
  rw [Nat.add_zero] at hst
  cases hq : P.info? elem with
  | none => simp [hq] at hs
  | some i =>
    have hi : i.size = z := by simpa [hq] using hs
    simp only [Builtin.firstCells] at hf0
    simp [Builtin.copy_, run_underlying hu, Builtin.lenOf, Builtin.firstCells, sizeOf, typeInfo, hq, hi, hk, hf0, hst, goInt]
theorem nstep_copy_run {P : Program} {ops : Array Oper} {o : Oper} {a : Act} {w wa : World} {K : Act → World → Prop} {Q : Exit → Act → World → Prop} {E : Prop} {T tx : TypeId} {u v v' : Value}
    (hrun : (Builtin.copy_ #[T, tx] o.type #[u, v]).run P w = .ok v' wa) (hgd : o.guard = none) (s x : Operand) (ho : o.op = .call { callee := .builtin .copy, args := #[s, x], argTypes := #[T, tx] })
    (hs : a.eval s = u) (hx : a.eval x = v) (h : K (a.put o.dst v') wa) : if Region.wanted o (yielded ops a.tmps) = true then Oper.wp P o a w K Q else E := by
  have hw : Region.wanted o (yielded ops a.tmps) = true := by simp [Region.wanted, hgd]
  rw [if_pos hw]
  unfold Oper.wp execOp
  simp only [ho, resolve, invoke, builtin, Sem.run_bind, Sem.run_pure, Result.andThen_ok, List.map_toArray, List.map_cons, List.map_nil, hs, hx, hrun]
  exact h
theorem RowC.setRange {w : World} {z g cap p : Nat} {l l' ms : List Value} (h : RowC w z g cap l) (hp : p + ms.length ≤ cap * z) (hl : l'.length ≤ cap * z) (hin : ∀ j b, j < ms.length → l'[p + j]? = some b → ms[j]? = some b) (hout : ∀ j b, (j < p ∨ p + ms.length ≤ j) → l'[j]? = some b → l[j]? = some b) : RowC (w.setCells g p ms) z g cap l' := by
  have hex : ∀ j, j < ms.length → (w.cell? ⟨g, p + j, none⟩).isSome = true := fun j hj => (h.there (p + j) (by omega)).1
  refine ⟨by rw [(setCells_tape g ms p w).2]; exact h.lt, hl, h.max, fun j b hj => ?_, fun j hj => ⟨?_, ?_⟩⟩
  · by_cases hjn : p ≤ j ∧ j < p + ms.length
    · have h3 := World.cell?_setCells_in g ms p w hex (j - p) (by omega)
      have e : p + (j - p) = j := by omega
      rw [e] at h3
      rw [h3]
      have := hin (j - p) b (by omega) (by rw [e]; exact hj)
      exact congrArg some ((List.getElem?_eq_some_iff.1 this).2)
    · rw [World.cell?_setCells_out g ms p w ⟨g, j, none⟩ (fun _ _ => by simp only; omega)]
      exact h.holds j b (hout j b (by omega) hj)
  · by_cases hjn : p ≤ j ∧ j < p + ms.length
    · have h3 := World.cell?_setCells_in g ms p w hex (j - p) (by omega)
      have e : p + (j - p) = j := by omega
      rw [e] at h3
      rw [h3]; rfl
    · rw [World.cell?_setCells_out g ms p w ⟨g, j, none⟩ (fun _ _ => by simp only; omega)]
      exact (h.there j hj).1
  · rw [World.frozen?_setCells]; exact (h.there j hj).2
section
variable {w : World} {b : Nat} {most : Int} {v : Value} {L : List Pk} {mp : Nat} {C : List MapEntry} {c : Nat} {ro : Nat → Nat}
theorem ptrs_get {L : List Pk} {i : Nat} {e : Pk} (h : L[i]? = some e) : (ptrs L)[i]? = some e.ptr := by rw [List.getElem?_map, h]; rfl
/-- What a call that finds a packet, or none, tells. -/
def FindP (n : Int) (w : World) (e : Ending) (w' : World) : Prop := ∃ v, e = .returned (.tuple #[.pointer none, v]) ∧ ErrN n w v w'
set_option maxRecDepth 100000 in
theorem nfind_ok (h : NetAt w b most v L mp C c ro) {i : Nat} {x : Pk} (hi : L[i]? = some x) : Calls Tryz.prog 64 #[.pointer (some ⟨b, 0, none⟩), .int .i64 i] w fun e w' => e = .returned (.tuple #[x.ptr, .nilIface]) ∧ w' = w := by
  have HN := Lib.hid (nnone_any h.head)
  have hc := h.cell1
  have hlt := (List.getElem?_eq_some_iff.1 hi).1
  have hfew := h.few.1
  obtain ⟨A, cp, rfl, _, _, _, _, h5⟩ := h.row.form
  obtain ⟨g, rfl, k0⟩ := h5 i _ (ptrs_get hi)
  have q1 : decide ((i : Int) < 0) = false := by simp
  have q2 : decide ((i : Int) ≥ (L.length : Int)) = false := by simp; omega
  have hiI : (i : Int) < (L.length : Int) := by omega
  clear h hi h5 hlt
  unfold Pk.ptr at k0 ⊢
  go_enter Tryz.func64, Tryz.ntmps64
  go_wp2_with fail
  refine (HN.out).mono ?_
  rintro e w1 ⟨rfl, rfl⟩
  go_wp2_with fail
  exact bodyPost_ret (v := .tuple #[.pointer (some ⟨x.pb, 0, none⟩), .nilIface]) (by simp [results, Tryz.results64, go_sem]) rfl ⟨rfl, rfl⟩
set_option maxRecDepth 100000 in
set_option maxHeartbeats 4000000 in
theorem nfind_no (h : NetAt w b most v L mp C c ro) {i : Int} (hi : ¬ (0 ≤ i ∧ i < (L.length : Int))) : Calls Tryz.prog 64 #[.pointer (some ⟨b, 0, none⟩), .int .i64 i] w (FindP 3 w) := by
  have HN := Lib.hid (nnone_any h.head)
  have hc := h.cell1
  obtain ⟨A, cp, rfl, _⟩ := h.row.form
  have HE := Lib.hid (new_num 3 (by decide) w)
  have HA := Lib.hid (at_some i 159 (.agg #[.int .i64 3]) w)
  have HFIN : Hid (FindP 3 w (.returned (.tuple #[.pointer none, .iface 190 (.pointer (some ⟨w.heap.size, 0, none⟩))])) (w.alloc (.cells #[.iface 159 (.agg #[.int .i64 3]), .int .i64 i] 194))) := Lib.hid ⟨_, rfl, ⟨_, _, rfl⟩, ⟨[.plc i, .num 3], ⟨by simp, _, _, rfl, alloc_at _ _, rfl, rfl⟩, numOk_cons (by simp) (numOk_one (by decide)), by simp, rfl⟩, below_new _⟩
  by_cases h0 : i < 0
  · have q1 : decide (i < 0) = true := by simpa using h0
    clear h hi h0
    go_enter Tryz.func64, Tryz.ntmps64
    go_wp2_with fail
    refine (HN.out).mono ?_
    rintro e w1 ⟨rfl, rfl⟩
    go_wp2_with fail
    refine (HE.out).mono ?_
    rintro e w1 ⟨rfl, rfl⟩
    go_wp2_with fail
    refine (HA.out).mono ?_
    rintro e w2 ⟨rfl, rfl⟩
    go_wp2_with fail
    exact bodyPost_ret (v := .tuple #[.pointer none, .iface 190 (.pointer (some ⟨_, 0, none⟩))]) (by simp [results, Tryz.results64, go_sem]) rfl HFIN.out
  · have q1 : decide (i < 0) = false := by simpa using h0
    have q2 : decide (i ≥ (L.length : Int)) = true := by simp; omega
    clear h hi h0
    go_enter Tryz.func64, Tryz.ntmps64
    go_wp2_with fail
    refine (HN.out).mono ?_
    rintro e w1 ⟨rfl, rfl⟩
    go_wp2_with fail
    refine (HE.out).mono ?_
    rintro e w1 ⟨rfl, rfl⟩
    go_wp2_with fail
    refine (HA.out).mono ?_
    rintro e w2 ⟨rfl, rfl⟩
    go_wp2_with fail
    exact bodyPost_ret (v := .tuple #[.pointer none, .iface 190 (.pointer (some ⟨_, 0, none⟩))]) (by simp [results, Tryz.results64, go_sem]) rfl HFIN.out
set_option maxRecDepth 100000 in
set_option maxHeartbeats 4000000 in
theorem nparted_no (h : NetAt w b most v L mp C c ro) {s : Int} (hs : -9223372036854775808 ≤ s ∧ s ≤ 9223372036854775807) (hno : ∀ e ∈ C, e.key ≠ .int .i64 s) : Calls Tryz.prog 66 #[.pointer (some ⟨b, 0, none⟩), .int .i64 s] w fun e w' => e = .returned (.bool false) ∧ Below w.heap.size w w' := by
  have hc : w.cell? ⟨b, 2, none⟩ = some (.map (some mp)) := cell_of h.head 2
  have hkey : keyOf Tryz.prog 3 (.int .i64 s) = some (.int .i64 s) := by
    refine Go.Maps.keyOf_int_mk Tryz.underlying3 ?_
    have e1 : IntKind.i64.min = -9223372036854775808 := by decide
    have e2 : IntKind.i64.max = 9223372036854775807 := by decide
    simp [Lit.wf, e1, e2]
    omega
  have qL := h.map.look_miss (Go.Maps.int_keyed Tryz.underlying3) Tryz.underlying97 (z := .agg #[]) (by kernel_rfl) hkey hno true
  simp only [if_true] at qL
  clear h hno hkey hs
  go_enter Tryz.func66, Tryz.ntmps66
  go_wp2_with fail
  go_ret
  exact ⟨rfl, below_new _⟩
end
end Go.Proofs.YtmbonngjkgcijaaGreatDoor

namespace Go.Proofs.YtmbonngjkgcijaaGreatDoor
open Go.RowKit Go.Shelf

theorem info1P : (Tryz.prog.info? 120).map (·.size) = some 1 := by kernel_rfl
theorem RowC.setOut {w : World} {g cap p : Nat} {l : List Value} (h : RowC w 1 g cap l) (hp : l.length ≤ p) (hpc : p < cap) (x : Value) : RowC (w.setCell ⟨g, p, none⟩ x) 1 g cap l := by
  obtain ⟨u, hc⟩ := Option.isSome_iff_exists.1 (h.there p (by omega)).1
  refine ⟨by simp [World.setCell]; exact h.lt, h.le, h.max, fun j y hj => ?_, fun j hj => ⟨?_, by simpa using (h.there j hj).2⟩⟩
  · have := (List.getElem?_eq_some_iff.1 hj).1
    rw [World.cell?_setCell_other _ _ _ _ (fun e => by injection e; omega)]
    exact h.holds j y hj
  · by_cases hij : p = j
    · subst hij
      rw [World.cell?_setCell_same _ _ _ hc]
      rfl
    · rw [World.cell?_setCell_other _ _ _ _ (fun e => hij (by injection e))]
      exact (h.there j hj).1
theorem RowC.setIn {w : World} {g cap p : Nat} {l : List Value} (h : RowC w 1 g cap l) (hp : p < l.length) (x : Value) : RowC (w.setCell ⟨g, p, none⟩ x) 1 g cap (l.set p x) := by
  have hle := h.le
  obtain ⟨u, hc⟩ := Option.isSome_iff_exists.1 (h.there p (by omega)).1
  refine ⟨by simp [World.setCell]; exact h.lt, by rw [List.length_set]; exact hle, h.max, fun j y hj => ?_, fun j hj => ⟨?_, by simpa using (h.there j hj).2⟩⟩
  · rw [List.getElem?_set] at hj
    by_cases hij : p = j
    · subst hij
      rw [if_pos rfl, if_pos hp] at hj
      rw [World.cell?_setCell_same _ _ _ hc]
      exact hj
    · rw [if_neg hij] at hj
      rw [World.cell?_setCell_other _ _ _ _ (fun e => hij (by injection e))]
      exact h.holds j y hj
  · by_cases hij : p = j
    · subst hij
      rw [World.cell?_setCell_same _ _ _ hc]
      rfl
    · rw [World.cell?_setCell_other _ _ _ _ (fun e => hij (by injection e))]
      exact (h.there j hj).1
section
variable {w : World} {b : Nat} {most : Int} {v : Value} {L : List Pk} {mp : Nat} {C : List MapEntry} {c : Nat} {ro : Nat → Nat}
/-- The net with another row, at the same packets or fewer. -/
theorem NetAt.reRow (h : NetAt w b most v L mp C c ro) {W : World} {v' : Value} {L' : List Pk} {ro' : Nat → Nat} {S : Nat → Prop} (ht : Touch S w W) (hS : ∀ k, k < w.heap.size → S k → ro k = 1 ∨ ro k = 3) (hh : W.heap[b]? = some (.cells #[.int .i64 most, v', .map (some mp)] 100 (0, 0)))
    (hr : RowIs W 1 v' L'.length (ptrs L')) (hl : L'.length ≤ 1024) (hsub : ∀ e ∈ L', e ∈ L) (hone : ∀ (i j : Nat) (x y : Pk), L'[i]? = some x → L'[j]? = some y → (x.pb = y.pb ∨ x.g = y.g) → i = j) (hro : ∀ k, ro k ≠ 0 → ro' k = ro k) (hro2 : ∀ k, ro' k ≠ 0 → k < W.heap.size) (hv : ∀ k, v'.ownBlock = some k → ro' k = 3) : NetAt W b most v' L' mp C c ro' where
  head := hh
  row := hr
  pk := fun e he => (ht.block _ (heap_lt (h.pk e (hsub e he))) (fun q => by have := hS _ (heap_lt (h.pk e (hsub e he))) q; have := (h.rp e (hsub e he)).1; omega)).trans (h.pk e (hsub e he))
  by_ := fun e he => (h.by_ e (hsub e he)).keep ht.size (ht.block _ (h.by_ e (hsub e he)).lt (fun q => by have := hS _ (h.by_ e (hsub e he)).lt q; have := (h.rp e (hsub e he)).2; omega))
  few := ⟨hl, fun e he => h.few.2 e (hsub e he)⟩
  map := h.map.keep (ht.block mp h.map.lt (fun e => by have := hS mp h.map.lt e; have := h.rm; omega))
  rb := by rw [hro b (by rw [h.rb]; decide)]; exact h.rb
  rm := by rw [hro mp (by rw [h.rm]; decide)]; exact h.rm
  rr := hv
  rp := fun e he => by
    have h1 := h.rp e (hsub e he)
    exact ⟨by rw [hro _ (by rw [h1.1]; decide)]; exact h1.1, by rw [hro _ (by rw [h1.2]; decide)]; exact h1.2⟩
  lt := hro2
  onep := fun i j x y hx hy e => hone i j x y hx hy (.inl e)
  oneg := fun i j x y hx hy e => hone i j x y hx hy (.inr e)
theorem NetAt.one (h : NetAt w b most v L mp C c ro) : ∀ (i j : Nat) (x y : Pk), L[i]? = some x → L[j]? = some y → (x.pb = y.pb ∨ x.g = y.g) → i = j := fun i j x y hx hy e => e.elim (h.onep i j x y hx hy) (h.oneg i j x y hx hy)
theorem erase_get {α : Type} {l : List α} {i j : Nat} : (l.eraseIdx i)[j]? = if j < i then l[j]? else l[j + 1]? := by
  rw [List.getElem?_eraseIdx]
set_option maxRecDepth 100000 in
set_option maxHeartbeats 4000000 in
theorem ntake_any (h : NetAt w b most v L mp C c ro) {i : Nat} (hi : i < L.length) : Calls Tryz.prog 69 #[.pointer (some ⟨b, 0, none⟩), .int .i64 i] w fun e w' => ∃ v', e = .returned (.tuple #[]) ∧ NetAt w' b most v' (L.eraseIdx i) mp C c ro ∧ Touch (fun k => ro k = 1 ∨ ro k = 3) w w' := by
  rcases h.row with ⟨rfl, hn, _⟩ | ⟨g, cap, rfl, hl, hcap, hrow⟩
  · omega
  have hc := h.cell1
  have hmx := hrow.max
  unfold maxLen at hmx
  obtain ⟨n, hn⟩ : ∃ n, L.length = n + 1 := ⟨L.length - 1, by omega⟩
  have hcap2 : n + 1 ≤ cap := by omega
  rw [hn] at hc
  have HC : Hid (∀ W : World, W.heap[b]? = w.heap[b]? → W.cell? ⟨b, 1, none⟩ = some (.slice (some ⟨g, 0, none⟩) (n + 1) cap)) := Lib.hid (fun W hW => (World.cell?_of_block (a := ⟨b, 1, none⟩) hW).trans hc)
  have hwr : IntKind.i64.wrap ((i : Int) + 1) = (i : Int) + 1 := IntWalk.i64_in _ (by have := h.few.1; omega)
  have hwn : IntKind.i64.wrap (((n + 1 : Nat) : Int) - 1) = (n : Int) := by rw [show (((n + 1 : Nat) : Int) - 1) = (n : Int) by omega]; exact IntWalk.i64_in _ (by have := h.few.1; omega)
  have hiI : (i : Int) ≤ (n : Int) := by omega
  have hi1 : ¬ cap = i := by omega
  have hi2 : ¬ ((n : Int) + 1 < (i : Int)) := by omega
  have hi3 : (0 : Int) ≤ (i : Int) + 1 := by omega
  have hgb : g ≠ b := fun e => by have h1 := h.rr g rfl; have h2 := h.rb; rw [e, h2] at h1; cases h1
  have hpl : (ptrs L).length = n + 1 := by rw [List.length_map]; exact hn
  have hrd : RowC w.drew 1 g cap (ptrs L) := hrow.keep (Nat.le_refl _) rfl
  have hcp : ∀ (ty : TypeId) (A2 : Option Addr), A2 = (if cap = i + 1 then some ⟨g, 0, none⟩ else some ⟨g, i + 1, none⟩) → (Builtin.copy_ #[98, 98] ty #[.slice (some ⟨g, i, none⟩) (n + 1 - i) (cap - i), .slice A2 (n - i) (cap - (i + 1))]).run Tryz.prog w.drew = .ok (.int .i64 ((n - i : Nat) : Int)) (w.drew.setCells g i ((ptrs L).drop (i + 1))) := by
    rintro ty A2 rfl
    have hdl : ((ptrs L).drop (i + 1)).length = (n - i) * 1 := by rw [List.length_drop, hpl]; omega
    have hmin : Nat.min (n - i) (n + 1 - i) = n - i := Nat.min_eq_left (by omega)
    have hone : ∀ u ∈ (ptrs L).drop (i + 1), u.oneCell' = true := fun u hu => by
      obtain ⟨e, _, rfl⟩ := List.mem_map.1 (List.mem_of_mem_drop hu)
      rfl
    by_cases hc1 : cap = i + 1
    · rw [if_pos hc1]
      exact ncopy_off w.drew _ _ ty 120 1 g i (n + 1 - i) (cap - i) g 0 (n - i) (cap - (i + 1)) (n - i) _ Tryz.underlying98 info1P hmin hdl (fun j u hj => by have := (List.getElem?_eq_some_iff.1 hj).1; omega) (fun j hj => (hrd.there (i + j) (by omega)).1) (fun j hj => (hrd.there (i + j) (by omega)).2) hone
    · rw [if_neg hc1]
      exact ncopy_off w.drew _ _ ty 120 1 g i (n + 1 - i) (cap - i) g (i + 1) (n - i) (cap - (i + 1)) (n - i) _ Tryz.underlying98 info1P hmin hdl (fun j u hj => by rw [List.getElem?_drop] at hj; exact hrd.holds _ u hj) (fun j hj => (hrd.there (i + j) (by omega)).1) (fun j hj => (hrd.there (i + j) (by omega)).2) hone
  have hsub : ∀ e ∈ L.eraseIdx i, e ∈ L := fun e he => List.mem_of_mem_eraseIdx he
  have hel : (L.eraseIdx i).length = n := by rw [List.length_eraseIdx, if_pos hi, hn]; rfl
  have hrow1 : RowC (w.drew.setCells g i ((ptrs L).drop (i + 1))) 1 g cap (ptrs (L.eraseIdx i)) := by
    refine hrd.setRange (by rw [List.length_drop, hpl]; omega) (by rw [List.length_map, hel]; omega) (fun j u hj hu => ?_) (fun j u hj hu => ?_)
    · rw [List.getElem?_map, erase_get, if_neg (by omega)] at hu
      rw [List.getElem?_drop, List.getElem?_map, show i + 1 + j = i + j + 1 from by omega]
      exact hu
    · rw [List.length_drop, hpl] at hj
      rw [List.getElem?_map, erase_get] at hu
      rw [List.getElem?_map]
      rcases hj with hj | hj
      · rw [if_pos hj] at hu; exact hu
      · rw [if_neg (by omega)] at hu
        cases hx : L[j + 1]? with
        | none => rw [hx] at hu; cases hu
        | some x => have := (List.getElem?_eq_some_iff.1 hx).1; omega
  obtain ⟨W1, hW1⟩ : ∃ W, W = w.drew.setCells g i ((ptrs L).drop (i + 1)) := ⟨_, rfl⟩
  have hT1 : Touch (fun k => k = g) w W1 := by
    have := setCells_touch (S := fun k => k = g) (a := w.drew) g (fun _ => rfl) ((ptrs L).drop (i + 1)) i w.drew (Touch.refl _ _)
    rw [hW1]
    exact (Touch.refl (fun k => k = g) w).drew.trans this (fun _ _ e => e)
  rw [← hW1] at hrow1 hcp
  have hh1 := (hT1.block b (heap_lt h.head) (fun e => hgb e.symm)).trans h.head
  rw [hn] at hh1
  have hrow2 := hrow1.setOut (p := n) (by rw [List.length_map, hel]; exact Nat.le_refl _) (by omega) (.pointer none)
  have hT2 : Touch (fun k => k = g) w (W1.setCell ⟨g, n, none⟩ (.pointer none)) := hT1.setCell ⟨g, n, none⟩ (fun _ => rfl) _
  have hh2 := (hT2.block b (heap_lt h.head) (fun e => hgb e.symm)).trans h.head
  rw [hn] at hh2
  have hh3 := set_at hh2 1 (.slice (some ⟨g, 0, none⟩) n cap)
  have hT3 : Touch (fun k => k = g ∨ k = b) w ((W1.setCell ⟨g, n, none⟩ (.pointer none)).setCell ⟨b, 1, none⟩ (.slice (some ⟨g, 0, none⟩) n cap)) := (hT2.mono (fun _ _ e => .inl e)).setCell ⟨b, 1, none⟩ (fun _ => .inr rfl) _
  have hrow3 : RowC ((W1.setCell ⟨g, n, none⟩ (.pointer none)).setCell ⟨b, 1, none⟩ (.slice (some ⟨g, 0, none⟩) n cap)) 1 g cap (ptrs (L.eraseIdx i)) := hrow2.keep (by simp [World.setCell]) (Below.heap_setCell _ _ _ _ hgb)
  have HFIN : Hid (NetAt ((W1.setCell ⟨g, n, none⟩ (.pointer none)).setCell ⟨b, 1, none⟩ (.slice (some ⟨g, 0, none⟩) n cap)) b most (.slice (some ⟨g, 0, none⟩) n cap) (L.eraseIdx i) mp C c ro ∧ Touch (fun k => ro k = 1 ∨ ro k = 3) w ((W1.setCell ⟨g, n, none⟩ (.pointer none)).setCell ⟨b, 1, none⟩ (.slice (some ⟨g, 0, none⟩) n cap))) := Lib.hid ⟨h.reRow hT3 (fun k hk e => by
      rcases e with e | e
      · exact .inr (by rw [e]; exact h.rr g rfl)
      · exact .inl (by rw [e]; exact h.rb)) hh3 (.inr ⟨g, cap, by rw [hel], by rw [List.length_map]; omega, by omega, hrow3⟩) (by have := h.few.1; omega) hsub (fun p q x y hx hy e => by
      rw [erase_get] at hx hy
      split at hx <;> split at hy
      · exact h.one p q x y hx hy e
      · have := h.one p (q + 1) x y hx hy e; omega
      · have := h.one (p + 1) q x y hx hy e; omega
      · have := h.one (p + 1) (q + 1) x y hx hy e; omega) (fun _ _ => rfl) (fun k hk => Nat.lt_of_lt_of_le (h.lt k hk) hT3.size) (fun k hk => by cases hk; exact h.rr g rfl), hT3.mono (fun k hk e => by
      rcases e with e | e
      · rw [e, h.rr g rfl]; exact .inr rfl
      · rw [e, h.rb]; exact .inl rfl)⟩
  obtain ⟨u0, hu0⟩ := Option.isSome_iff_exists.1 (hrow1.there n (by omega)).1
  have hf0 := (hrow1.there n (by omega)).2
  have k1 : W1.cell? ⟨b, 1, none⟩ = some (.slice (some ⟨g, 0, none⟩) (n + 1) cap) := cell_of hh1 1
  have k2 : (W1.setCell ⟨g, n, none⟩ (.pointer none)).cell? ⟨b, 1, none⟩ = some (.slice (some ⟨g, 0, none⟩) (n + 1) cap) := cell_of hh2 1
  have f2 : (W1.setCell ⟨g, n, none⟩ (.pointer none)).frozen? ⟨b, 1, none⟩ = false := free0 hh2 1
  have hnI : (n : Int) < (n : Int) + 1 := by omega
  have hnc : n ≤ cap := by omega
  have HC1 := Lib.hid (HC.out W1 (hT1.block b (heap_lt h.head) (fun e => hgb e.symm)))
  have HCP := Lib.hid hcp
  have HW1 := Lib.hid hW1
  clear hrd hrow hrow1 hrow2 hrow3 hT1 hT2 hT3 hh1 hh2 hh3 hcp hsub hel h hi hW1 hpl hl
  go_enter Tryz.func69, Tryz.ntmps69
  go_wp2_with fail
  refine wp_only ?_
  refine wp_region_held_drew (S := fun W => W.cell? ⟨b, 1, none⟩ = some (.slice (some ⟨g, 0, none⟩) (n + 1) cap)) (by kernel_rfl) (HC.out _ rfl) (fun hHeld => ?_)
  refine tkH (i := 0) (oi := { dst := some 11, op := .move (.tmp 0), type := 23, pos := "packet.go:99", after := #[], guard := none }) (v := ?vv1) ?hy1 ?rest1
  case hy1 => (refine Or.inl ⟨by rfl, ?_⟩; intro W hSw; (try dsimp only at hSw); go_simp; (try with_reducible rfl))
  try simp only [Act.put, pzz]
  refine tkH (i := 1) (oi := { dst := some 12, op := .nilCheck (.tmp 11), type := 0, pos := "packet.go:99", after := #[⟨0, .data⟩], guard := none }) (v := ?vv2) ?hy2 ?rest2
  case hy2 => (refine Or.inl ⟨by rfl, ?_⟩; intro W hSw; (try dsimp only at hSw); go_simp; (try with_reducible rfl))
  try simp only [Act.put, pzz]
  refine tkH (i := 2) (oi := { dst := some 13, op := .fieldAddr 100 (.tmp 12) 1, type := 0, pos := "packet.go:99", after := #[⟨1, .data⟩], guard := none }) (v := ?vv3) ?hy3 ?rest3
  case hy3 => (refine Or.inl ⟨by rfl, ?_⟩; intro W hSw; (try dsimp only at hSw); go_simp; (try with_reducible rfl))
  try simp only [Act.put, pzz]
  refine tkH (i := 3) (oi := { dst := some 14, op := .load 98 (.tmp 13), type := 98, pos := "packet.go:99", after := #[⟨2, .data⟩], guard := none }) (v := ?vv4) ?hy4 ?rest4
  case hy4 => (refine Or.inl ⟨by rfl, ?_⟩; intro W hSw; (try dsimp only at hSw); go_simp; (try with_reducible rfl))
  try simp only [Act.put, pzz]
  refine tkH (i := 4) (oi := { dst := some 15, op := .move (.tmp 1), type := 3, pos := "packet.go:99", after := #[], guard := none }) (v := ?vv5) ?hy5 ?rest5
  case hy5 => (refine Or.inl ⟨by rfl, ?_⟩; intro W hSw; (try dsimp only at hSw); go_simp; (try with_reducible rfl))
  try simp only [Act.put, pzz]
  refine tkH (i := 5) (oi := { dst := some 16, op := .slice 98 (.tmp 14) (some (.tmp 15)) none none, type := 98, pos := "packet.go:99", after := #[⟨3, .data⟩, ⟨4, .data⟩], guard := none }) (v := ?vv6) ?hy6 ?rest6
  case hy6 => (refine Or.inl ⟨by rfl, ?_⟩; intro W hSw; (try dsimp only at hSw); go_simp; (try with_reducible rfl))
  try simp only [Act.put, pzz]
  refine tkH (i := 6) (oi := { dst := some 17, op := .move (.tmp 0), type := 23, pos := "packet.go:99", after := #[], guard := none }) (v := ?vv7) ?hy7 ?rest7
  case hy7 => (refine Or.inl ⟨by rfl, ?_⟩; intro W hSw; (try dsimp only at hSw); go_simp; (try with_reducible rfl))
  try simp only [Act.put, pzz]
  refine tkH (i := 7) (oi := { dst := some 18, op := .nilCheck (.tmp 17), type := 0, pos := "packet.go:99", after := #[⟨6, .data⟩], guard := none }) (v := ?vv8) ?hy8 ?rest8
  case hy8 => (refine Or.inl ⟨by rfl, ?_⟩; intro W hSw; (try dsimp only at hSw); go_simp; (try with_reducible rfl))
  try simp only [Act.put, pzz]
  refine tkH (i := 8) (oi := { dst := some 19, op := .fieldAddr 100 (.tmp 18) 1, type := 0, pos := "packet.go:99", after := #[⟨7, .data⟩], guard := none }) (v := ?vv9) ?hy9 ?rest9
  case hy9 => (refine Or.inl ⟨by rfl, ?_⟩; intro W hSw; (try dsimp only at hSw); go_simp; (try with_reducible rfl))
  try simp only [Act.put, pzz]
  refine tkH (i := 9) (oi := { dst := some 20, op := .load 98 (.tmp 19), type := 98, pos := "packet.go:99", after := #[⟨8, .data⟩], guard := none }) (v := ?vv10) ?hy10 ?rest10
  case hy10 => (refine Or.inl ⟨by rfl, ?_⟩; intro W hSw; (try dsimp only at hSw); go_simp; (try with_reducible rfl))
  try simp only [Act.put, pzz]
  refine tkH (i := 10) (oi := { dst := some 21, op := .move (.tmp 1), type := 3, pos := "packet.go:99", after := #[], guard := none }) (v := ?vv11) ?hy11 ?rest11
  case hy11 => (refine Or.inl ⟨by rfl, ?_⟩; intro W hSw; (try dsimp only at hSw); go_simp; (try with_reducible rfl))
  try simp only [Act.put, pzz]
  refine tkH (i := 11) (oi := { dst := some 22, op := .binOp .add 3 (.tmp 21) (.const (.int .i64 1)) 3, type := 3, pos := "packet.go:99", after := #[⟨10, .data⟩], guard := none }) (v := ?vv12) ?hy12 ?rest12
  case hy12 => (refine Or.inl ⟨by rfl, ?_⟩; intro W hSw; (try dsimp only at hSw); go_simp; (try with_reducible rfl))
  try simp only [Act.put, pzz]
  refine tkH (i := 12) (oi := { dst := some 23, op := .slice 98 (.tmp 20) (some (.tmp 22)) none none, type := 98, pos := "packet.go:99", after := #[⟨9, .data⟩, ⟨11, .data⟩], guard := none }) (v := ?vv13) ?hy13 ?rest13
  case hy13 => (refine Or.inl ⟨by rfl, ?_⟩; intro W hSw; (try dsimp only at hSw); go_simp; (try with_reducible rfl))
  try simp only [Act.put, pzz]
  refine wpAnyH_ready (rs := [13]) (by kernel_rfl) (by simp) ?_
  refine AllReadyH.cons (o := { dst := some 24, op := .call { callee := .builtin .copy, args := #[.tmp 16, .tmp 23], argTypes := #[98, 98] }, type := 3, pos := "packet.go:99", after := #[⟨5, .data⟩, ⟨12, .data⟩], guard := none }) rfl (fun K hK => ?step14) ?more14
  case more14 => exact AllReadyH.nil
  (refine nstep_copy_run (HCP.out _ _ rfl) rfl (.tmp 16) (.tmp 23) rfl rfl rfl ?_)
  refine hK.out _ _ ?hS14 (fun hHeld => ?rr14)
  case hS14 => (exact HC1.out)
  clear hK K
  try simp only [Act.put, pzz]
  refine wpAnyH_done (by kernel_rfl) ?_ _
  clear hHeld
  dsimp only [onlyN]
  go_wp2_with fail
  · go_end0
    have hci : cap = i + 1 := by assumption
    have H := HFIN.out
    rw [hci] at H
    exact ⟨rfl, ⟨_, H.1⟩, H.2⟩
  · go_end0
    exact ⟨rfl, ⟨_, HFIN.out.1⟩, HFIN.out.2⟩
end
end Go.Proofs.YtmbonngjkgcijaaGreatDoor
