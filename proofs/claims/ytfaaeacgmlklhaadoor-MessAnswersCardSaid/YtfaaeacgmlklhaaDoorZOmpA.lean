/- The reader of package octet in memory: good, Left, nat, wrong. (Of stage 1's OctR.) -/
import Derived.Test.YtfaaeacgmlklhaaDoorZOmwB
import Derived.Laws.BitsAllLaws
import Derived.Laws.BitsLemmas
import Derived.Deep.Draws
set_option linter.unusedSimpArgs false
set_option linter.unusedVariables false
set_option linter.unnecessarySimpa false
namespace Go.Proofs.YtfaaeacgmlklhaaDoor
open Go.RowKit Go.Shelf Go.Lib


theorem WrapIs.only {w w' : World} {g : Nat} {cs0 : Array Value} {t el : TypeId} {cs : Value → Array Value} {p q : Value → Prop} {v : Value} (hg : w.heap[g]? = some (.cells cs0 79 (0, 0))) (hne : el ≠ 79)
    (hk : ∀ b, b < w.heap.size → b ≠ g → w'.heap[b]? = w.heap[b]?) (hpq : ∀ x, p x → q x) (h : WrapIs w t el cs p v) : WrapIs w' t el cs q v := by
  obtain ⟨b, x, rfl, hb, hx⟩ := h
  refine ⟨b, x, rfl, ?_, hpq x hx⟩
  have : b ≠ g := by
    rintro rfl
    rw [hg] at hb
    injection hb with hb
    injection hb with _ hb
    exact hne hb.symm
  rw [hk b (ErrIs.lt hb) this, hb]
theorem ErrIs.only {w w' : World} {g : Nat} {cs0 : Array Value} (hg : w.heap[g]? = some (.cells cs0 79 (0, 0))) (hk : ∀ b, b < w.heap.size → b ≠ g → w'.heap[b]? = w.heap[b]?) : ∀ (c : List Lk) (v : Value), ErrIs w c v → ErrIs w' c v
  | [], _, h => h
  | .num _ :: _, _, h => h
  | .plc _ :: r, _, h => ⟨h.1, h.2.only hg (by decide) hk (ErrIs.only hg hk r)⟩
  | .nam _ :: r, _, h => ⟨h.1, h.2.only hg (by decide) hk (ErrIs.only hg hk r)⟩
  | .bnd _ _ :: r, _, h => ⟨h.1, h.2.only hg (by decide) hk (ErrIs.only hg hk r)⟩

/-- A reader at block g: its bytes, its place, what was wrong. -/
structure Rd (w : World) (g : Nat) (A : Option Addr) (cap : Nat) (bs : List UInt8) (pos : Nat) (ev : Value) (c : List Lk) : Prop where
  blk : w.heap[g]? = some (.cells #[.slice A bs.length cap, .int .i64 (pos : Int), ev] 79 (0, 0))
  err : ErrIs w c ev
  le : bs.length ≤ cap
  max : cap ≤ maxLen
  pos_le : pos ≤ bs.length
  byt : ∀ i b, bs[i]? = some b → ∃ gb, A = some ⟨gb, 0, none⟩ ∧ gb ≠ g ∧ gb < w.heap.size ∧ w.cell? ⟨gb, i, none⟩ = some (.int .u8 (b.toNat : Int))
theorem Rd.below {w w' : World} {g : Nat} {A : Option Addr} {cap : Nat} {bs : List UInt8} {pos : Nat} {ev : Value} {c : List Lk} (h : Rd w g A cap bs pos ev c) (hb : Below w.heap.size w w') : Rd w' g A cap bs pos ev c :=
  ⟨(hb.block g (ErrIs.lt h.blk)).trans h.blk, h.err.below hb, h.le, h.max, h.pos_le, fun i b hi => by
    obtain ⟨gb, h1, h2, h3, h4⟩ := h.byt i b hi
    exact ⟨gb, h1, h2, Nat.lt_of_lt_of_le h3 hb.size, (hb.cell (p := ⟨gb, i, none⟩) h3).trans h4⟩⟩

set_option maxHeartbeats 400000 in
theorem good_yes {w : World} {g : Nat} {A : Option Addr} {cap : Nat} {bs : List UInt8} {pos : Nat} (h : Rd w g A cap bs pos .nilIface []) : Calls Tryd.prog 44 #[.pointer (some ⟨g, 0, none⟩)] w fun e w' => e = .returned (.bool true) ∧ w = w' := by
  have c2 := cell_of_row w g 2 _ _ _ h.blk
  simp at c2
  clear h
  go_enter Tryd.func44, Tryd.ntmps44
  go_wp2
  go_ret
  exact ⟨rfl, rfl⟩
set_option maxHeartbeats 400000 in
theorem good_no {w : World} {g : Nat} {A : Option Addr} {cap : Nat} {bs : List UInt8} {pos : Nat} {t : TypeId} {u : Value} {c : List Lk} (h : Rd w g A cap bs pos (.iface t u) c) : Calls Tryd.prog 44 #[.pointer (some ⟨g, 0, none⟩)] w fun e w' => e = .returned (.bool false) ∧ w = w' := by
  have c2 := cell_of_row w g 2 _ _ _ h.blk
  simp at c2
  clear h
  go_enter Tryd.func44, Tryd.ntmps44
  go_wp2
  go_ret
  exact ⟨rfl, rfl⟩
set_option maxHeartbeats 400000 in
theorem left_any {w : World} {g : Nat} {A : Option Addr} {cap : Nat} {bs : List UInt8} {pos : Nat} {ev : Value} {c : List Lk} (h : Rd w g A cap bs pos ev c) : Calls Tryd.prog 46 #[.pointer (some ⟨g, 0, none⟩)] w fun e w' => e = .returned (.int .i64 ((bs.length : Int) - (pos : Int))) ∧ ∃ n, w' = w.drewN n := by
  have c0 := cell_of_row w g 0 _ _ _ h.blk
  have c1 := cell_of_row w g 1 _ _ _ h.blk
  simp at c0 c1
  have hle := h.pos_le
  have h1 := h.le
  have h2 := h.max
  unfold maxLen at h2
  have hi : (0 : Int) ≤ (bs.length : Int) - (pos : Int) := by omega
  have hi2 : (bs.length : Int) - (pos : Int) ≤ 9223372036854775807 := by omega
  have hi3 : (bs.length : Int) ≤ 9223372036854775807 := by omega
  clear h
  go_enter Tryd.func46, Tryd.ntmps46
  go_wp2
  go_quiet (fail)
  go_wp2
  go_ret
  exact ⟨rfl, _, rfl⟩

set_option maxRecDepth 100000 in
set_option maxHeartbeats 1000000 in
theorem wrong_any {w : World} {g : Nat} {A : Option Addr} {cap : Nat} {bs : List UInt8} {pos : Nat} (p : Nat) (e : Int) (he : e ≠ 0) (hp : p ≤ bs.length) (h : Rd w g A cap bs pos .nilIface []) :
    Calls Tryd.prog 47 #[.pointer (some ⟨g, 0, none⟩), .int .i64 (p : Int), .int .i64 e] w fun x w' => x = .returned (.tuple #[]) ∧ (∃ ev, Rd w' g A cap bs p ev [.plc p, .num e]) ∧ Only g w w' := by
  have c1 := cell_of_row w g 1 _ _ _ h.blk
  have c2 := cell_of_row w g 2 _ _ _ h.blk
  have f1 := free0 h.blk 1
  have f2 := free0 h.blk 2
  simp at c1 c2
  have H := Lib.hid h
  have HE := Lib.hid he
  clear h he
  go_enter Tryd.func47, Tryd.ntmps47
  go_wp2_with fail
  refine (new_num e HE.out _).mono ?_
  rintro x w' ⟨rfl, rfl⟩
  go_wp2_with fail
  refine (at_some _ _ _ _).mono ?_
  rintro x w' ⟨rfl, rfl⟩
  have hb1 := set_at H.out.blk 1 (.int .i64 (p : Int))
  have hb2 := block_alloc (p := .cells #[.iface 107 (.agg #[.int .i64 e]), .int .i64 (p : Int)] 116) hb1
  have d2 := cell_of_row _ g 2 _ _ _ hb2
  have e2 := free0 hb2 2
  simp at d2
  have HB2 := Lib.hid hb2
  clear hb1 hb2
  go_wp2
  go_end0
  have h3 := set_at HB2.out 2 (.iface 112 (.pointer (some ⟨w.heap.size, 0, none⟩)))
  have hgl := ErrIs.lt H.out.blk
  have ho : Only g w ((((w.setCell ⟨g, 1, none⟩ (.int .i64 (p : Int))).alloc (.cells #[.iface 107 (.agg #[.int .i64 e]), .int .i64 (p : Int)] 116)).setCell ⟨g, 2, none⟩ (.iface 112 (.pointer (some ⟨w.heap.size, 0, none⟩))))) :=
    (((Only.of_below (Below.refl _ _)).setCell 1 _).trans_alloc _).setCell 2 _
  refine ⟨rfl, ⟨.iface 112 (.pointer (some ⟨w.heap.size, 0, none⟩)), ?_, ?_, H.out.le, H.out.max, hp, ?_⟩, ho⟩
  · simpa using h3
  · refine ⟨by simp, w.heap.size, _, rfl, ?_, rfl, rfl⟩
    have hn := heap_alloc_new (w.setCell ⟨g, 1, none⟩ (.int .i64 (p : Int))) (.cells #[.iface 107 (.agg #[.int .i64 e]), .int .i64 (p : Int)] 116)
    rw [Below.heap_setCell _ _ _ _ (by simp; omega)]
    simpa [World.setCell] using hn
  · intro i b hi
    obtain ⟨gb, q1, q2, q3, q4⟩ := H.out.byt i b hi
    exact ⟨gb, q1, q2, Nat.lt_of_lt_of_le q3 ho.size, (World.cell?_of_block (a := ⟨gb, i, none⟩) (ho.block gb q3 q2)).trans q4⟩

/-- What a list of bytes begins with: a number, and how many bytes it takes. -/
def foldB (l : List UInt8) : Nat := l.foldl (fun n x => n * 256 + x.toNat) 0
def natP : List UInt8 → Option (Nat × Nat)
  | [] => none
  | k :: r => if 8 < k.toNat then none else if r.length < k.toNat then none else if 0 < k.toNat ∧ r[0]? = some 0 then none else some (foldB (r.take k.toNat), k.toNat + 1)
def BR (w : World) (A : Option Addr) (l : List UInt8) : Prop := ∀ i b, l[i]? = some b → ∃ a, A = some a ∧ w.cell? (a.add i) = some (.int .u8 (b.toNat : Int))
theorem foldB_snoc (l : List UInt8) (x : UInt8) : foldB (l ++ [x]) = foldB l * 256 + x.toNat := by simp [foldB]
theorem foldB_lt (l : List UInt8) : foldB l < 256 ^ l.length := by
  rw [← List.reverse_reverse l]
  induction l.reverse with
  | nil => simp [foldB]
  | cons x r ih =>
    rw [List.reverse_cons, foldB_snoc, List.length_append, List.length_singleton, Nat.pow_succ]
    have := UInt8.toNat_lt x
    omega
theorem shl_or (M x : Nat) (hM : M < 72057594037927936) (hx : x < 256) : bits .or .u64 (IntKind.u64.wrap ((M : Int) * 256)) (IntKind.u64.wrap (x : Int)) = ((M * 256 + x : Nat) : Int) := by
  have e1 : IntKind.u64.wrap ((M : Int) * 256) = ((M * 256 : Nat) : Int) := by rw [IntKind.wrap_u64]; omega
  have e2 : IntKind.u64.wrap (x : Int) = (x : Int) := by rw [IntKind.wrap_u64]; omega
  rw [e1, e2, u64_or_nat _ _ (by omega) (by omega)]
  congr 1
  have := nat_join 8 (M * 256) x (by omega) (by omega)
  omega
theorem round_val {l : List UInt8} {k : Nat} {x : UInt8} (hx : l[k]? = some x) (hk : k < 8) : bits .or .u64 (IntKind.u64.wrap ((foldB (l.take k) : Nat) * 256)) (IntKind.u64.wrap (x.toNat : Int)) = ((foldB (l.take (k + 1)) : Nat) : Int) := by
  have hlt : k < l.length := (List.getElem?_eq_some_iff.1 hx).1
  have hb : foldB (l.take k) < 72057594037927936 := by
    have h1 := foldB_lt (l.take k)
    have h2 : (l.take k).length ≤ 7 := by rw [List.length_take]; omega
    exact Nat.lt_of_lt_of_le h1 (Nat.le_trans (Nat.pow_le_pow_right (by omega) h2) (by decide))
  rw [shl_or _ _ hb (UInt8.toNat_lt x), List.take_succ_eq_append_getElem hlt, foldB_snoc, (List.getElem?_eq_some_iff.1 hx).2]
set_option maxRecDepth 100000 in
set_option maxHeartbeats 2000000 in
theorem nat_zero {w : World} {a : Addr} {m cap : Nat} (hc : m + 1 ≤ cap) (hm : cap ≤ 9223372036854775807) (hc0 : w.cell? a = some (.int .u8 0)) :
    Calls Tryd.prog 56 #[.slice (some a) (m + 1) cap] w fun e w' => e = .returned (.tuple #[.int .u64 0, .int .i64 1, .bool true]) ∧ w' = w := by
  have p2 : (((m : Int) + 1) == 0) = false := beq_eq_false_iff_ne.2 (by omega)
  have p3 : decide ((m : Int) + 1 < 1) = false := by simp; omega
  have p4 : 1 ≤ cap := by omega
  clear hm
  go_enter Tryd.func56, Tryd.ntmps56
  go_wp2
  all_goals
    refine wp_loop_rounds 1 ?_
    rw [rounds_succ]
    go_wp2
    go_ret3
    exact ⟨rfl, rfl⟩
set_option maxRecDepth 100000 in
set_option maxHeartbeats 2000000 in
theorem nat_pos {w : World} {gb o m cap n : Nat} {l : List UInt8} {x0 : UInt8} (hc : m + 1 ≤ cap) (hm : cap ≤ 9223372036854775807) (hn : n ≤ m) (hn1 : 1 ≤ n) (hn8 : n ≤ 8) (hl : l.length = n) (hc0 : w.cell? ⟨gb, o, none⟩ = some (.int .u8 (n : Int)))
    (hc1 : w.cell? ⟨gb, o + 1, none⟩ = some (.int .u8 (x0.toNat : Int))) (hx0 : x0 ≠ 0) (hcl : ∀ i b, l[i]? = some b → w.cell? ⟨gb, o + 1 + i, none⟩ = some (.int .u8 (b.toNat : Int))) :
    Calls Tryd.prog 56 #[.slice (some ⟨gb, o, none⟩) (m + 1) cap] w fun e w' => e = .returned (.tuple #[.int .u64 (foldB l : Nat), .int .i64 ((n : Int) + 1), .bool true]) ∧ w' = w := by
  have p2 : (((m : Int) + 1) == 0) = false := beq_eq_false_iff_ne.2 (by omega)
  have p3 : decide ((m : Int) + 1 < 1 + (n : Int)) = false := by simp; omega
  have p4 : 1 + n ≤ cap := by omega
  have p5 : ¬ cap = 1 := by omega
  have p6 : ((x0.toNat : Int) == 0) = false := beq_eq_false_iff_ne.2 (fun h => hx0 (UInt8.toNat_inj.1 (by simp; omega)))
  have p7 : decide (8 < (n : Int)) = false := by simp; omega
  have p8 : decide (1 < 1 + (n : Int)) = true := by simp; omega
  have p9 : (n : Int) ≤ 8 := by omega
  have p10 : (1 : Int) ≤ (n : Int) := by omega
  have p11 : (1 : Int) < (m : Int) + 1 := by omega
  have HCL := Lib.hid hcl
  have HL := Lib.hid hl
  clear hm hx0 hcl hl hn
  go_enter Tryd.func56, Tryd.ntmps56
  go_wp2_with fail
  go_loop [2, 39] (fun m i => ∃ k : Nat, k ≤ n ∧ i = .int .i64 k ∧ m = .int .u64 (foldB (l.take k) : Nat)) (fun _ i => n - (RowKit.intOf i).toNat)
  case atStart => exact ⟨0, by omega, rfl, rfl⟩
  case round =>
    obtain ⟨k, hk, rfl, rfl⟩ := hrel
    by_cases hlt : k < n
    · have hx : l[k]? = some (l[k]'(by rw [HL.out]; exact hlt)) := List.getElem?_eq_getElem _
      generalize (l[k]'(by rw [HL.out]; exact hlt)) = x at hx
      have c1 := HCL.out k x hx
      have HX := Lib.hid hx
      have hki : (k : Int) < (n : Int) := by omega
      clear hx
      have hk8 : k < 8 := by omega
      go_wp2
      go_round
      case rel => exact ⟨k + 1, by omega, by go_num, by rw [← round_val HX.out hk8]⟩
      case measure => simp [RowKit.intOf]; omega
    · obtain rfl : k = n := by omega
      have e1 : l.take k = l := by rw [← HL.out, List.take_length]
      have HE := Lib.hid e1
      clear e1
      go_wp2
      go_ret3
      refine ⟨?_, rfl⟩
      rw [← HE.out]
      have e2 : (1 : Int) + (k : Int) = (k : Int) + 1 := by omega
      rw [HE.out, ← e2]
      show Ending.returned (.tuple #[.int .u64 (foldB (l.take k) : Nat), .int .i64 (1 + (k : Int)), .bool true]) = _
      rw [HE.out]

end Go.Proofs.YtfaaeacgmlklhaaDoor
