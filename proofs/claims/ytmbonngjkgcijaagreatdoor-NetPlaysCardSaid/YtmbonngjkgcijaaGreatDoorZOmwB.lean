/- octet.Num, Str, Seq. (Of stage 1's OctW, OctV, OctU.) The reader of package octet in memory: good, Left, nat, wrong. (Of stage 1's OctR.) The reader of package octet, where what is read is there: Nat, Err, Place. (Of stage 1's OctQ.) The reader of package octet: Num, Str, End, where what is read is there. (Of stage 1's OctC, OctD.) -/
import Derived.Test.YtmbonngjkgcijaaGreatDoorZErrB
import Derived.Laws.IdiomStrings
import Derived.Laws.BitsAllLaws
import Derived.Laws.BitsLemmas
import Derived.Deep.Draws
set_option linter.unusedSimpArgs false
set_option linter.unusedVariables false
set_option linter.unnecessarySimpa false
namespace Go.Proofs.YtmbonngjkgcijaaGreatDoor
open Go.RowKit Go.Shelf Go.Lib

theorem src_own {w : World} {base : Nat} {v : Value} {l : List UInt8} (h : OwnBy w base v l) (hl : l ≠ []) : Src Tryz.prog 1 54 v l.length (bc l) w := by
  rcases h with ⟨_, h⟩ | ⟨g, cap, rfl, h⟩
  · exact absurd h hl
  · exact Src.ofSlice _ Tryz.underlying54 ⟨g, 0, none⟩ l.length cap (bc l) (by simp [bc_length]) (fun j u hu => by
      obtain ⟨b, hb, rfl⟩ := bc_at hu
      rw [add0]; exact h.holds j b hb) (bc_one l)
theorem src_any {w : World} {base : Nat} {v : Value} {l : List UInt8} (h : OwnBy w base v l) : Src Tryz.prog 1 54 v l.length (bc l) w := by
  by_cases hl : l = []
  · subst hl
    rcases h with ⟨rfl, _⟩ | ⟨g, cap, rfl, h⟩
    · exact Src.ofNil w Tryz.underlying54 0
    · exact Src.ofSlice _ Tryz.underlying54 ⟨g, 0, none⟩ 0 cap [] rfl (fun j u hu => by simp at hu) (fun u hu => by cases hu)
  · exact src_own h hl
theorem OwnBy.mono {w : World} {base base' : Nat} {v : Value} {l : List UInt8} (h : OwnBy w base v l) (hb : base' ≤ base) : OwnBy w base' v l := by
  rcases h with h | ⟨g, cap, rfl, h⟩
  · exact .inl h
  · exact .inr ⟨g, cap, rfl, ⟨Nat.le_trans hb h.new, h.lt, h.le, h.max, h.holds, h.there⟩⟩
theorem OwnBy.len {w : World} {base : Nat} {v : Value} {l : List UInt8} (h : OwnBy w base v l) : ∃ A cap, v = .slice A l.length cap := by
  rcases h with ⟨rfl, rfl⟩ | ⟨g, cap, rfl, _⟩
  · exact ⟨_, _, rfl⟩
  · exact ⟨_, _, rfl⟩
def numN (m : Int) : Nat := if m < 0 then (2 * (-1 - m) + 1).toNat else (2 * m).toNat
set_option maxRecDepth 100000 in
set_option maxHeartbeats 1000000 in
theorem onum_any (m : Int) (h0 : -9223372036854775808 ≤ m) (h1 : m ≤ 9223372036854775807) (w : World) :
    Calls Tryz.prog 167 #[.int .i64 m] w fun e w' => ∃ v, e = .returned v ∧ OwnBy w' w.heap.size v (natB (numN m)) ∧ Below w.heap.size w w' := by
  have HN := Lib.hid (onat_any (numN m) (by unfold numN; split <;> omega) w)
  by_cases hm : m < 0
  · have HE : Hid ((numN m : Int) = 2 * (-1 - m) + 1) := by show (numN m : Int) = _; unfold numN; rw [if_pos hm]; omega
    go_enter Tryz.func167, Tryz.ntmps167
    go_wp2_with fail
    rw [show ((-1 - m) * 2 + 1 : Int) = (numN m : Int) from by rw [HE.out]; omega]
    refine (HN.out).mono ?_
    rintro e w1 ⟨v, rfl, hO, hB⟩
    have HO := Lib.hid hO
    have HB := Lib.hid hB
    clear hO hB
    go_wp2
    go_ret
    exact ⟨_, rfl, HO.out, HB.out⟩
  · have HE : Hid ((numN m : Int) = 2 * m) := by show (numN m : Int) = _; unfold numN; rw [if_neg hm]; omega
    have hm' : 0 ≤ m := by omega
    clear hm
    go_enter Tryz.func167, Tryz.ntmps167
    go_wp2_with fail
    rw [show (m * 2 : Int) = (numN m : Int) from by rw [HE.out]; omega]
    refine (HN.out).mono ?_
    rintro e w1 ⟨v, rfl, hO, hB⟩
    have HO := Lib.hid hO
    have HB := Lib.hid hB
    clear hO hB
    go_wp2
    go_ret
    exact ⟨_, rfl, HO.out, HB.out⟩

def strB (s : ByteArray) : List UInt8 := natB s.size ++ s.data.toList
theorem sizeB_le (n : Nat) (hn : n ≤ 18446744073709551615) : sizeB n ≤ 8 := by
  have := bitLen_le n hn
  unfold sizeB; omega
theorem natB_len (n : Nat) : (natB n).length = 1 + sizeB n := by unfold natB; rw [List.length_cons, beB_length]; omega
set_option maxRecDepth 100000 in
set_option maxHeartbeats 1000000 in
theorem ostr_any (s : ByteArray) (hs : s.size ≤ 536870912) (w : World) :
    Calls Tryz.prog 146 #[.string s] w fun e w' => ∃ v, e = .returned v ∧ OwnBy w' w.heap.size v (strB s) ∧ Below w.heap.size w w' := by
  have HN := Lib.hid (onat_any s.size (by omega) w)
  have hz : (s.size : Int) ≤ 536870912 := by omega
  have hz0 : (0 : Int) ≤ (s.size : Int) := by omega
  go_enter Tryz.func146, Tryz.ntmps146
  go_wp2_with fail
  refine (HN.out).mono ?_
  rintro e w1 ⟨v, rfl, hO, hB⟩
  have HO := Lib.hid hO
  have HB := Lib.hid hB
  have src : Hid (Src Tryz.prog 1 9 (.string s) s.data.toList.length (bc s.data.toList) w1) := Src.ofString w1 Tryz.underlying9 s
  have hlen : (natB s.size).length + s.data.toList.length ≤ 1073741824 := by
    have := sizeB_le s.size (by omega)
    have h2 : s.data.toList.length = s.size := by simp
    rw [natB_len, h2]; omega
  have HL := Lib.hid hlen
  clear hO hB hlen
  go_wp2_with (at_builtin; refine wpList_append_by _ rfl _ _ 9 rfl w.heap.size (natB s.size) s.data.toList _ _ rfl rfl HO.out src.out HL.out HB.out.size ?_)
  intro v' w' hown hg
  have HO' := Lib.hid hown
  have HB' := Lib.hid (HB.out.grown hg HB.out.size HO.out.rows)
  clear hown hg
  go_wp2
  go_ret
  exact ⟨_, rfl, HO'.out, HB'.out⟩

/-- A slice value that reads as slices of bytes. -/
def PartsIs (w : World) (v : Value) (ls : List (List UInt8)) : Prop :=
  (v = .slice none 0 0 ∧ ls = []) ∨ ∃ b cap, v = .slice (some ⟨b, 0, none⟩) ls.length cap ∧ b < w.heap.size ∧ ls.length ≤ 1000 ∧ ∀ i l, ls[i]? = some l → l ≠ [] ∧ ∃ x, w.cell? ⟨b, i, none⟩ = some x ∧ OwnBy w 0 x l
set_option maxRecDepth 100000 in
set_option maxHeartbeats 2000000 in
theorem oseq_any {w : World} {v : Value} {ls : List (List UInt8)} (h : PartsIs w v ls) (hl : ls.flatten.length ≤ 536870912) :
    Calls Tryz.prog 168 #[v] w fun e w' => ∃ v, e = .returned v ∧ OwnBy w' w.heap.size v ls.flatten ∧ Below w.heap.size w w' := by
  rcases h with ⟨rfl, rfl⟩ | ⟨b, cap, rfl, hbl, hn, h6⟩
  · go_enter Tryz.func168, Tryz.ntmps168
    go_wp2
    refine wp_loop_rounds 1 ?_
    rw [rounds_succ]
    go_wp2
    go_ret
    exact ⟨_, rfl, .inl ⟨rfl, rfl⟩, Below.refl _ _⟩
  · have H6 := Lib.hid h6
    have HL := Lib.hid hl
    clear h6 hl
    go_enter Tryz.func168, Tryz.ntmps168
    go_wp2_with fail
    go_loopw [3, 8] (fun v i wr => ∃ k : Nat, k ≤ ls.length ∧ i = .int .i64 k ∧ OwnBy wr w.heap.size v (ls.take k).flatten ∧ Below w.heap.size w wr) (fun _ i _ => ls.length - (RowKit.intOf i).toNat)
    case atStart => exact ⟨0, by omega, rfl, .inl ⟨rfl, by simp⟩, Below.refl _ _⟩
    case round =>
      obtain ⟨k, hk, rfl, hown, hb⟩ := hrel
      by_cases hlt : k < ls.length
      · have hx : ls[k]? = some ls[k] := List.getElem?_eq_getElem hlt
        generalize hll : ls[k] = l at hx
        obtain ⟨hne, x, hc, hox⟩ := H6.out k l hx
        have c0 := (hb.cell (p := ⟨b, k, none⟩) hbl).trans hc
        have src := Lib.hid (src_own (hox.below hb) hne)
        have HX : Hid ((ls.take (k + 1)).flatten = (ls.take k).flatten ++ l) := by
          show (ls.take (k + 1)).flatten = (ls.take k).flatten ++ l
          rw [List.take_succ_eq_append_getElem hlt, hll, List.flatten_append]; simp
        have hlen : Hid ((ls.take k).flatten.length + l.length ≤ 1073741824) := by
          have h1 : (ls.take (k + 1)).flatten.length ≤ ls.flatten.length := by
            have : ls.flatten = (ls.take (k + 1)).flatten ++ (ls.drop (k + 1)).flatten := by rw [← List.flatten_append, List.take_append_drop]
            rw [this, List.length_append]; omega
          rw [HX.out, List.length_append] at h1
          have := HL.out
          show (ls.take k).flatten.length + l.length ≤ 1073741824
          omega
        have HB := Lib.hid hb
        have HO := Lib.hid hown
        obtain ⟨Ax, cx, rfl⟩ : ∃ Ax cx, x = .slice Ax l.length cx := by
          rcases hox with ⟨rfl, rfl⟩ | ⟨g, c, rfl, _⟩
          · exact ⟨_, _, rfl⟩
          · exact ⟨_, _, rfl⟩
        clear hx hb hown hc hox hll hne
        go_wp2_with (at_builtin; refine wpList_append_by _ rfl _ _ 54 rfl w.heap.size (ls.take k).flatten l _ _ rfl rfl HO.out src.out hlen.out HB.out.size ?_)
        intro v' w' hown hg
        have HO' := Lib.hid hown
        have HB' := Lib.hid (HB.out.grown hg HB.out.size HO.out.rows)
        clear hown hg
        go_wp2
        go_roundw
        case rel => exact ⟨k + 1, by omega, by go_num, by rw [HX.out]; exact HO'.out, HB'.out⟩
        case measure => simp [RowKit.intOf]; omega
      · obtain rfl : k = ls.length := by omega
        have HB := Lib.hid hb
        have HO := Lib.hid hown
        clear hb hown
        go_wp2
        go_ret
        refine ⟨_, rfl, ?_, HB.out⟩
        have := HO.out
        rw [List.take_length] at this
        exact this
end Go.Proofs.YtmbonngjkgcijaaGreatDoor

namespace Go.Proofs.YtmbonngjkgcijaaGreatDoor
open Go.RowKit Go.Shelf Go.Lib


theorem WrapIs.only {w w' : World} {g : Nat} {cs0 : Array Value} {t el : TypeId} {cs : Value → Array Value} {p q : Value → Prop} {v : Value} (hg : w.heap[g]? = some (.cells cs0 173 (0, 0))) (hne : el ≠ 173)
    (hk : ∀ b, b < w.heap.size → b ≠ g → w'.heap[b]? = w.heap[b]?) (hpq : ∀ x, p x → q x) (h : WrapIs w t el cs p v) : WrapIs w' t el cs q v := by
  obtain ⟨b, x, rfl, hb, hx⟩ := h
  refine ⟨b, x, rfl, ?_, hpq x hx⟩
  have : b ≠ g := by
    rintro rfl
    rw [hg] at hb
    injection hb with hb
    injection hb with _ hb
    exact hne hb.symm
  rw [hk b (ErrIs.lt hb) this, hb]
theorem ErrIs.only {w w' : World} {g : Nat} {cs0 : Array Value} (hg : w.heap[g]? = some (.cells cs0 173 (0, 0))) (hk : ∀ b, b < w.heap.size → b ≠ g → w'.heap[b]? = w.heap[b]?) : ∀ (c : List Lk) (v : Value), ErrIs w c v → ErrIs w' c v
  | [], _, h => h
  | .num _ :: _, _, h => h
  | .plc _ :: r, _, h => ⟨h.1, h.2.only hg (by decide) hk (ErrIs.only hg hk r)⟩
  | .nam _ :: r, _, h => ⟨h.1, h.2.only hg (by decide) hk (ErrIs.only hg hk r)⟩
  | .bnd _ _ :: r, _, h => ⟨h.1, h.2.only hg (by decide) hk (ErrIs.only hg hk r)⟩

/-- A reader at block g: its bytes, its place, what was wrong. -/
structure Rd (w : World) (g : Nat) (A : Option Addr) (cap : Nat) (bs : List UInt8) (pos : Nat) (ev : Value) (c : List Lk) : Prop where
  blk : w.heap[g]? = some (.cells #[.slice A bs.length cap, .int .i64 (pos : Int), ev] 173 (0, 0))
  err : ErrIs w c ev
  le : bs.length ≤ cap
  max : cap ≤ maxLen
  pos_le : pos ≤ bs.length
  byt : ∀ i b, bs[i]? = some b → ∃ gb, A = some ⟨gb, 0, none⟩ ∧ gb ≠ g ∧ gb < w.heap.size ∧ w.cell? ⟨gb, i, none⟩ = some (.int .u8 (b.toNat : Int))
theorem Rd.below {w w' : World} {g : Nat} {A : Option Addr} {cap : Nat} {bs : List UInt8} {pos : Nat} {ev : Value} {c : List Lk} (h : Rd w g A cap bs pos ev c) (hb : Below w.heap.size w w') : Rd w' g A cap bs pos ev c :=
  ⟨(hb.block g (ErrIs.lt h.blk)).trans h.blk, h.err.below hb, h.le, h.max, h.pos_le, fun i b hi => by
    obtain ⟨gb, h1, h2, h3, h4⟩ := h.byt i b hi
    exact ⟨gb, h1, h2, Nat.lt_of_lt_of_le h3 hb.size, (hb.cell (p := ⟨gb, i, none⟩) h3).trans h4⟩⟩

set_option maxHeartbeats 400000 in
theorem good_yes {w : World} {g : Nat} {A : Option Addr} {cap : Nat} {bs : List UInt8} {pos : Nat} (h : Rd w g A cap bs pos .nilIface []) : Calls Tryz.prog 107 #[.pointer (some ⟨g, 0, none⟩)] w fun e w' => e = .returned (.bool true) ∧ w = w' := by
  have c2 := cell_of_row w g 2 _ _ _ h.blk
  simp at c2
  clear h
  go_enter Tryz.func107, Tryz.ntmps107
  go_wp2
  go_ret
  exact ⟨rfl, rfl⟩
set_option maxHeartbeats 400000 in
theorem good_no {w : World} {g : Nat} {A : Option Addr} {cap : Nat} {bs : List UInt8} {pos : Nat} {t : TypeId} {u : Value} {c : List Lk} (h : Rd w g A cap bs pos (.iface t u) c) : Calls Tryz.prog 107 #[.pointer (some ⟨g, 0, none⟩)] w fun e w' => e = .returned (.bool false) ∧ w = w' := by
  have c2 := cell_of_row w g 2 _ _ _ h.blk
  simp at c2
  clear h
  go_enter Tryz.func107, Tryz.ntmps107
  go_wp2
  go_ret
  exact ⟨rfl, rfl⟩
set_option maxHeartbeats 400000 in
theorem left_any {w : World} {g : Nat} {A : Option Addr} {cap : Nat} {bs : List UInt8} {pos : Nat} {ev : Value} {c : List Lk} (h : Rd w g A cap bs pos ev c) : Calls Tryz.prog 109 #[.pointer (some ⟨g, 0, none⟩)] w fun e w' => e = .returned (.int .i64 ((bs.length : Int) - (pos : Int))) ∧ ∃ n, w' = w.drewN n := by
  have c0 := cell_of_row w g 0 _ _ _ h.blk
  have c1 := cell_of_row w g 1 _ _ _ h.blk
  simp at c0 c1
  have hle := h.pos_le
  have h1 := h.le
  have h2 := h.max
  unfold maxLen at h2
  have hi : (0 : Int) ≤ (bs.length : Int) - (pos : Int) := by omega
  have hi2 : (bs.length : Int) - (pos : Int) ≤ 9223372036854775807 := by omega
  have hi3 : (bs.length : Int) ≤ 9223372036854775807 := by omega
  clear h
  go_enter Tryz.func109, Tryz.ntmps109
  go_wp2
  go_quiet (fail)
  go_wp2
  go_ret
  exact ⟨rfl, _, rfl⟩

set_option maxRecDepth 100000 in
set_option maxHeartbeats 1000000 in
theorem wrong_any {w : World} {g : Nat} {A : Option Addr} {cap : Nat} {bs : List UInt8} {pos : Nat} (p : Nat) (e : Int) (he : e ≠ 0) (hp : p ≤ bs.length) (h : Rd w g A cap bs pos .nilIface []) :
    Calls Tryz.prog 110 #[.pointer (some ⟨g, 0, none⟩), .int .i64 (p : Int), .int .i64 e] w fun x w' => x = .returned (.tuple #[]) ∧ (∃ ev, Rd w' g A cap bs p ev [.plc p, .num e]) ∧ Only g w w' := by
  have c1 := cell_of_row w g 1 _ _ _ h.blk
  have c2 := cell_of_row w g 2 _ _ _ h.blk
  have f1 := free0 h.blk 1; have f2 := free0 h.blk 2
  simp at c1 c2
  have H := Lib.hid h
  have HE := Lib.hid he
  clear h he
  go_enter Tryz.func110, Tryz.ntmps110
  go_wp2_with fail
  refine (new_num e HE.out _).mono ?_
  rintro x w' ⟨rfl, rfl⟩
  go_wp2_with fail
  refine (at_some _ _ _ _).mono ?_
  rintro x w' ⟨rfl, rfl⟩
  have hb1 := set_at H.out.blk 1 (.int .i64 (p : Int))
  have hb2 := block_alloc (p := .cells #[.iface 159 (.agg #[.int .i64 e]), .int .i64 (p : Int)] 194) hb1
  have d2 := cell_of_row _ g 2 _ _ _ hb2
  have e2 := free0 hb2 2
  simp at d2
  have HB2 := Lib.hid hb2
  clear hb1 hb2
  go_wp2
  go_end0
  have h3 := set_at HB2.out 2 (.iface 190 (.pointer (some ⟨w.heap.size, 0, none⟩)))
  have hgl := ErrIs.lt H.out.blk
  have ho : Only g w ((((w.setCell ⟨g, 1, none⟩ (.int .i64 (p : Int))).alloc (.cells #[.iface 159 (.agg #[.int .i64 e]), .int .i64 (p : Int)] 194)).setCell ⟨g, 2, none⟩ (.iface 190 (.pointer (some ⟨w.heap.size, 0, none⟩))))) :=
    (((Only.of_below (Below.refl _ _)).setCell 1 _).trans_alloc _).setCell 2 _
  refine ⟨rfl, ⟨.iface 190 (.pointer (some ⟨w.heap.size, 0, none⟩)), ?_, ?_, H.out.le, H.out.max, hp, ?_⟩, ho⟩
  · simpa using h3
  · refine ⟨by simp, w.heap.size, _, rfl, ?_, rfl, rfl⟩
    have hn := heap_alloc_new (w.setCell ⟨g, 1, none⟩ (.int .i64 (p : Int))) (.cells #[.iface 159 (.agg #[.int .i64 e]), .int .i64 (p : Int)] 194)
    rw [Below.heap_setCell _ _ _ _ (by simp; omega)]
    simpa [World.setCell] using hn
  · intro i b hi
    obtain ⟨gb, q1, q2, q3, q4⟩ := H.out.byt i b hi
    exact ⟨gb, q1, q2, Nat.lt_of_lt_of_le q3 ho.size, (World.cell?_of_block (a := ⟨gb, i, none⟩) (ho.block gb q3 q2)).trans q4⟩

/-- What a list of bytes begins with: a number, and how many bytes it takes. -/
def foldB (l : List UInt8) : Nat := l.foldl (fun n x => n * 256 + x.toNat) 0
def natP : List UInt8 → Option (Nat × Nat)
  | [] => none
  | k :: r => if 8 < k.toNat then none else if r.length < k.toNat then none else if 0 < k.toNat ∧ r[0]? = some 0 then none else some (foldB (r.take k.toNat), k.toNat + 1)
theorem foldB_snoc (l : List UInt8) (x : UInt8) : foldB (l ++ [x]) = foldB l * 256 + x.toNat := by simp [foldB]
theorem foldB_lt (l : List UInt8) : foldB l < 256 ^ l.length := by
  rw [← List.reverse_reverse l]
  induction l.reverse with
  | nil => simp [foldB]
  | cons x r ih =>
    rw [List.reverse_cons, foldB_snoc, List.length_append, List.length_singleton, Nat.pow_succ]
    have := UInt8.toNat_lt x
    omega
theorem shl_or (M x : Nat) (hM : M < 72057594037927936) (hx : x < 256) : bits .or .u64 (IntKind.u64.wrap ((M : Int) * 256)) (IntKind.u64.wrap (x : Int)) = ((M * 256 + x : Nat) : Int) := by
  have e1 : IntKind.u64.wrap ((M : Int) * 256) = ((M * 256 : Nat) : Int) := by rw [IntKind.wrap_u64]; omega
  have e2 : IntKind.u64.wrap (x : Int) = (x : Int) := by rw [IntKind.wrap_u64]; omega
  rw [e1, e2, u64_or_nat _ _ (by omega) (by omega)]
  congr 1
  have := nat_join 8 (M * 256) x (by omega) (by omega)
  omega
theorem round_val {l : List UInt8} {k : Nat} {x : UInt8} (hx : l[k]? = some x) (hk : k < 8) : bits .or .u64 (IntKind.u64.wrap ((foldB (l.take k) : Nat) * 256)) (IntKind.u64.wrap (x.toNat : Int)) = ((foldB (l.take (k + 1)) : Nat) : Int) := by
  have hlt : k < l.length := (List.getElem?_eq_some_iff.1 hx).1
  have hb : foldB (l.take k) < 72057594037927936 := by
    have h1 := foldB_lt (l.take k)
    have h2 : (l.take k).length ≤ 7 := by rw [List.length_take]; omega
    exact Nat.lt_of_lt_of_le h1 (Nat.le_trans (Nat.pow_le_pow_right (by omega) h2) (by decide))
  rw [shl_or _ _ hb (UInt8.toNat_lt x), List.take_succ_eq_append_getElem hlt, foldB_snoc, (List.getElem?_eq_some_iff.1 hx).2]
set_option maxRecDepth 100000 in
set_option maxHeartbeats 2000000 in
theorem nat_zero {w : World} {a : Addr} {m cap : Nat} (hc : m + 1 ≤ cap) (hm : cap ≤ 9223372036854775807) (hc0 : w.cell? a = some (.int .u8 0)) :
    Calls Tryz.prog 150 #[.slice (some a) (m + 1) cap] w fun e w' => e = .returned (.tuple #[.int .u64 0, .int .i64 1, .bool true]) ∧ w' = w := by
  have p2 : (((m : Int) + 1) == 0) = false := beq_eq_false_iff_ne.2 (by omega)
  have p3 : decide ((m : Int) + 1 < 1) = false := by simp; omega
  have p4 : 1 ≤ cap := by omega
  clear hm
  go_enter Tryz.func150, Tryz.ntmps150
  go_wp2
  all_goals
    refine wp_loop_rounds 1 ?_
    rw [rounds_succ]
    go_wp2
    go_ret3
    exact ⟨rfl, rfl⟩
set_option maxRecDepth 100000 in
set_option maxHeartbeats 2000000 in
theorem nat_pos {w : World} {gb o m cap n : Nat} {l : List UInt8} {x0 : UInt8} (hc : m + 1 ≤ cap) (hm : cap ≤ 9223372036854775807) (hn : n ≤ m) (hn1 : 1 ≤ n) (hn8 : n ≤ 8) (hl : l.length = n) (hc0 : w.cell? ⟨gb, o, none⟩ = some (.int .u8 (n : Int)))
    (hc1 : w.cell? ⟨gb, o + 1, none⟩ = some (.int .u8 (x0.toNat : Int))) (hx0 : x0 ≠ 0) (hcl : ∀ i b, l[i]? = some b → w.cell? ⟨gb, o + 1 + i, none⟩ = some (.int .u8 (b.toNat : Int))) :
    Calls Tryz.prog 150 #[.slice (some ⟨gb, o, none⟩) (m + 1) cap] w fun e w' => e = .returned (.tuple #[.int .u64 (foldB l : Nat), .int .i64 ((n : Int) + 1), .bool true]) ∧ w' = w := by
  have p2 : (((m : Int) + 1) == 0) = false := beq_eq_false_iff_ne.2 (by omega)
  have p3 : decide ((m : Int) + 1 < 1 + (n : Int)) = false := by simp; omega
  have p4 : 1 + n ≤ cap := by omega
  have p5 : ¬ cap = 1 := by omega
  have p6 : ((x0.toNat : Int) == 0) = false := beq_eq_false_iff_ne.2 (fun h => hx0 (UInt8.toNat_inj.1 (by simp; omega)))
  have p7 : decide (8 < (n : Int)) = false := by simp; omega
  have p8 : decide (1 < 1 + (n : Int)) = true := by simp; omega
  have p9 : (n : Int) ≤ 8 := by omega
  have p10 : (1 : Int) ≤ (n : Int) := by omega
  have p11 : (1 : Int) < (m : Int) + 1 := by omega
  have HCL := Lib.hid hcl
  have HL := Lib.hid hl
  clear hm hx0 hcl hl hn
  go_enter Tryz.func150, Tryz.ntmps150
  go_wp2_with fail
  go_loop [2, 39] (fun m i => ∃ k : Nat, k ≤ n ∧ i = .int .i64 k ∧ m = .int .u64 (foldB (l.take k) : Nat)) (fun _ i => n - (RowKit.intOf i).toNat)
  case atStart => exact ⟨0, by omega, rfl, rfl⟩
  case round =>
    obtain ⟨k, hk, rfl, rfl⟩ := hrel
    by_cases hlt : k < n
    · have hx : l[k]? = some (l[k]'(by rw [HL.out]; exact hlt)) := List.getElem?_eq_getElem _
      generalize (l[k]'(by rw [HL.out]; exact hlt)) = x at hx
      have c1 := HCL.out k x hx
      have HX := Lib.hid hx
      have hki : (k : Int) < (n : Int) := by omega
      clear hx
      have hk8 : k < 8 := by omega
      go_wp2
      go_round
      case rel => exact ⟨k + 1, by omega, by go_num, by rw [← round_val HX.out hk8]⟩
      case measure => simp [RowKit.intOf]; omega
    · obtain rfl : k = n := by omega
      have e1 : l.take k = l := by rw [← HL.out, List.take_length]
      have HE := Lib.hid e1
      clear e1
      go_wp2
      go_ret3
      refine ⟨?_, rfl⟩
      rw [← HE.out]
      have e2 : (1 : Int) + (k : Int) = (k : Int) + 1 := by omega
      rw [HE.out, ← e2]
      show Ending.returned (.tuple #[.int .u64 (foldB (l.take k) : Nat), .int .i64 (1 + (k : Int)), .bool true]) = _
      rw [HE.out]

end Go.Proofs.YtmbonngjkgcijaaGreatDoor

namespace Go.Proofs.YtmbonngjkgcijaaGreatDoor
open Go.RowKit Go.Shelf Go.Lib


theorem addo (g o n : Nat) : (⟨g, o, none⟩ : Addr).add n = ⟨g, o + n, none⟩ := by
  unfold Addr.add
  split
  · subst n; rfl
  · rfl
theorem nat_some {w : World} {gb o N cap n sz : Nat} {l : List UInt8} (hl : l.length = N) (hc : N ≤ cap) (hm : cap ≤ 9223372036854775807) (hcell : ∀ i b, l[i]? = some b → w.cell? ⟨gb, o + i, none⟩ = some (.int .u8 (b.toNat : Int))) (hp : natP l = some (n, sz)) :
    Calls Tryz.prog 150 #[.slice (some ⟨gb, o, none⟩) N cap] w fun e w' => e = .returned (.tuple #[.int .u64 (n : Int), .int .i64 (sz : Int), .bool true]) ∧ w' = w := by
  subst hl
  cases l with
  | nil => simp [natP] at hp
  | cons k r =>
    rw [natP] at hp
    split at hp
    · cases hp
    · rename_i h8
      split at hp
      · cases hp
      · rename_i hr
        split at hp
        · cases hp
        · rename_i h0
          have hp := Option.some.inj hp
          have h1 : foldB (r.take k.toNat) = n := congrArg Prod.fst hp
          have h2 : k.toNat + 1 = sz := congrArg Prod.snd hp
          have hk := hcell 0 k rfl
          by_cases hz : k.toNat = 0
          · rw [hz] at hk h1 h2
            have e1 : n = 0 := by rw [← h1]; rfl
            subst e1
            have e2 : sz = 1 := h2.symm
            subst e2
            exact (nat_zero (m := r.length) hc hm (by simpa using hk)).mono fun e w' ⟨he, hw⟩ => ⟨by rw [he]; rfl, hw⟩
          · have hx : r[0]? = some r[0] := List.getElem?_eq_getElem (by omega)
            have hx0 : r[0] ≠ 0 := fun h => h0 ⟨by omega, by rw [hx, h]⟩
            have hkn : k.toNat ≤ 8 := by omega
            refine (nat_pos (m := r.length) (n := k.toNat) (l := r.take k.toNat) (x0 := r[0]) hc hm (by omega) (by omega) hkn (by rw [List.length_take]; omega) (by simpa using hk) (hcell 1 r[0] (by simp)) hx0 ?_).mono fun e w' ⟨he, hw⟩ => ⟨by rw [he, h1, ← h2]; rfl, hw⟩
            intro i b hi
            rw [List.getElem?_take] at hi
            split at hi
            · have := hcell (i + 1) b (by simpa using hi)
              rw [show o + 1 + i = o + (i + 1) from by omega]; exact this
            · cases hi
theorem natP_size {l : List UInt8} {n sz : Nat} (h : natP l = some (n, sz)) : sz ≤ l.length ∧ 1 ≤ sz := by
  cases l with
  | nil => simp [natP] at h
  | cons k r =>
    rw [natP] at h
    split at h
    · cases h
    · split at h
      · cases h
      · split at h
        · cases h
        · have h2 : k.toNat + 1 = sz := congrArg Prod.snd (Option.some.inj h)
          rw [List.length_cons]; omega

theorem Rd.move {w : World} {g : Nat} {A : Option Addr} {cap : Nat} {bs : List UInt8} {pos : Nat} {ev : Value} {c : List Lk} (h : Rd w g A cap bs pos ev c) (k p : Nat) (hp : p ≤ bs.length) :
    Rd ((w.drewN k).setCell ⟨g, 1, none⟩ (.int .i64 (p : Int))) g A cap bs p ev c ∧ Only g w ((w.drewN k).setCell ⟨g, 1, none⟩ (.int .i64 (p : Int))) := by
  have ho : Only g w ((w.drewN k).setCell ⟨g, 1, none⟩ (.int .i64 (p : Int))) := (Only.of_below (below_drewN (Below.refl _ _) k)).setCell 1 _
  have hb : (w.drewN k).heap[g]? = some (.cells #[.slice A bs.length cap, .int .i64 (pos : Int), ev] 173 (0, 0)) := h.blk
  refine ⟨⟨by simpa using set_at hb 1 (.int .i64 (p : Int)), ErrIs.only h.blk ho.block _ _ h.err, h.le, h.max, hp, fun i b hi => ?_⟩, ho⟩
  obtain ⟨gb, q1, q2, q3, q4⟩ := h.byt i b hi
  exact ⟨gb, q1, q2, Nat.lt_of_lt_of_le q3 ho.size, (World.cell?_of_block (a := ⟨gb, i, none⟩) (ho.block gb q3 q2)).trans q4⟩
theorem Only.trans {g : Nat} {a b c : World} (h : Only g a b) (k : Only g b c) : Only g a c :=
  ⟨k.os.trans h.os, k.tape.trans h.tape, k.output.trans h.output, Nat.le_trans h.size k.size, fun i hi hne => (k.block i (Nat.lt_of_lt_of_le hi h.size) hne).trans (h.block i hi hne)⟩
set_option maxRecDepth 100000 in
set_option maxHeartbeats 2000000 in
theorem rnat_ok {w : World} {g : Nat} {A : Option Addr} {cap : Nat} {bs : List UInt8} {pos n sz : Nat} (h : Rd w g A cap bs pos .nilIface []) (hp : natP (bs.drop pos) = some (n, sz)) :
    Calls Tryz.prog 103 #[.pointer (some ⟨g, 0, none⟩)] w fun e w' => e = .returned (.int .u64 (n : Int)) ∧ Rd w' g A cap bs (pos + sz) .nilIface [] ∧ Only g w w' := by
  have hs := natP_size hp
  rw [List.length_drop] at hs
  have hlt : pos < bs.length := by omega
  obtain ⟨gb, rfl, hgg, hgl, _⟩ := h.byt 0 bs[0] (List.getElem?_eq_getElem (by omega))
  have hm := h.max
  unfold maxLen at hm
  have hle := h.le
  have H72 := Lib.hid (fun k : Nat => nat_some (w := w.drewN k) (gb := gb) (o := pos) (N := bs.length - pos) (cap := cap - pos) (l := bs.drop pos) (by rw [List.length_drop]) (by omega) (by omega) (fun i b hi => by
    rw [List.getElem?_drop] at hi
    obtain ⟨gb', he, _, _, hc⟩ := h.byt (pos + i) b hi
    cases he; exact hc) hp)
  have HG := Lib.hid (good_yes h)
  have c0 := cell_of_row w g 0 _ _ _ h.blk
  have c1 := cell_of_row w g 1 _ _ _ h.blk
  have f1 := free0 h.blk 1
  simp at c0 c1
  have H := Lib.hid h
  have q1 : pos ≤ cap := by omega
  have q2 : pos ≤ bs.length := by omega
  have q3 : ¬ cap = pos := by omega
  have q4 : (pos : Int) + (sz : Int) ≤ 9223372036854775807 := by omega
  clear h hp hm
  go_enter Tryz.func103, Tryz.ntmps103
  go_wp2_with fail
  refine (HG.out).mono ?_
  rintro e w' ⟨rfl, rfl⟩
  go_wp2_with fail
  go_quiet ((go_at_call 150; exact Calls.quiet_of_same (H72.out _)))
  go_wp2
  go_ret
  have hmv := H.out.move nq (pos + sz) (by omega)
  have e : ((pos + sz : Nat) : Int) = (pos : Int) + (sz : Int) := by omega
  rw [e] at hmv
  exact ⟨rfl, hmv.1, hmv.2⟩

set_option maxRecDepth 100000 in
set_option maxHeartbeats 2000000 in
theorem count_long {w : World} {g : Nat} {A : Option Addr} {cap : Nat} {bs : List UInt8} {pos n sz most : Nat} (h : Rd w g A cap bs pos .nilIface []) (hp : natP (bs.drop pos) = some (n, sz)) (hmost : most < n) (hm64 : most ≤ 1073741824) :
    Calls Tryz.prog 108 #[.pointer (some ⟨g, 0, none⟩), .int .i64 (most : Int)] w fun e w' => e = .returned (.int .i64 0) ∧ (∃ t u, Rd w' g A cap bs pos (.iface t u) [.plc pos, .num 7]) ∧ Only g w w' := by
  have HG := Lib.hid (good_yes h)
  have HN := Lib.hid (rnat_ok h hp)
  have c1 := cell_of_row w g 1 _ _ _ h.blk
  simp at c1
  have H := Lib.hid h
  have hpl := h.pos_le
  have q1 : (most : Int) < (n : Int) := by omega
  have q2 : (0 : Int) ≤ (most : Int) := by omega
  have q3 : (most : Int) ≤ 1073741824 := by omega
  clear h hp
  go_enter Tryz.func108, Tryz.ntmps108
  go_wp2_with fail
  refine (HG.out).mono ?_
  rintro e w' ⟨rfl, rfl⟩
  go_wp2_with fail
  refine (HN.out).mono ?_
  rintro e w1 ⟨rfl, hR, hO⟩
  have HR := Lib.hid hR
  have HO := Lib.hid hO
  clear hR hO c1
  go_wp2_with fail
  refine (wrong_any pos 7 (by decide) hpl HR.out).mono ?_
  rintro e w2 ⟨rfl, ⟨ev, hR2⟩, hO2⟩
  obtain ⟨t, u, rfl⟩ := hR2.err.form1
  have HR2 := Lib.hid hR2
  have HO2 := Lib.hid hO2
  clear hR2 hO2
  go_wp2
  go_ret
  exact ⟨rfl, ⟨_, _, HR2.out⟩, HO.out.trans HO2.out⟩

set_option maxRecDepth 100000 in
set_option maxHeartbeats 2000000 in
theorem rstr_long {w : World} {g : Nat} {A : Option Addr} {cap : Nat} {bs : List UInt8} {pos n sz most : Nat} (h : Rd w g A cap bs pos .nilIface []) (hp : natP (bs.drop pos) = some (n, sz)) (hmost : most < n) (hm64 : most ≤ 1073741824) :
    Calls Tryz.prog 61 #[.pointer (some ⟨g, 0, none⟩), .int .i64 (most : Int)] w fun e w' => e = .returned (.string ⟨#[]⟩) ∧ (∃ t u, Rd w' g A cap bs pos (.iface t u) [.plc pos, .num 7]) ∧ Only g w w' := by
  have HG := Lib.hid (good_yes h)
  have HN := Lib.hid (count_long h hp hmost hm64)
  have c1 := cell_of_row w g 1 _ _ _ h.blk
  simp at c1
  clear h hp
  go_enter Tryz.func61, Tryz.ntmps61
  go_wp2_with fail
  refine (HG.out).mono ?_
  rintro e w' ⟨rfl, rfl⟩
  go_wp2_with fail
  refine (HN.out).mono ?_
  rintro e w1 ⟨rfl, ⟨t, u, hR⟩, hO⟩
  have HR := Lib.hid hR
  have HO := Lib.hid hO
  have HG2 := Lib.hid (good_no hR)
  clear hR hO c1
  go_wp2_with fail
  refine (HG2.out).mono ?_
  rintro e w' ⟨rfl, rfl⟩
  go_wp2
  go_ret
  exact ⟨rfl, ⟨_, _, HR.out⟩, HO.out⟩

set_option maxRecDepth 100000 in
set_option maxHeartbeats 1000000 in
theorem rerr_any {w : World} {g : Nat} {A : Option Addr} {cap : Nat} {bs : List UInt8} {pos : Nat} {ev : Value} {c : List Lk} (hG : Glob w) (h : Rd w g A cap bs pos ev c) (hok : NumOk c) (hlt : c.length < 1000) :
    Calls Tryz.prog 111 #[.pointer (some ⟨g, 0, none⟩)] w fun e w' => e = .returned (.int .i64 (codeOf c)) ∧ Below w.heap.size w w' := by
  have HC := Lib.hid (code_any hG h.err hok hlt (Below.refl _ _))
  have c2 := cell_of_row w g 2 _ _ _ h.blk
  simp at c2
  clear h hG hok hlt
  go_enter Tryz.func111, Tryz.ntmps111
  go_wp2_with fail
  refine (HC.out).mono ?_
  rintro e w1 ⟨rfl, hb⟩
  have HB := Lib.hid hb
  clear hb
  go_wp2
  go_ret
  exact ⟨rfl, HB.out⟩
end Go.Proofs.YtmbonngjkgcijaaGreatDoor

namespace Go.Proofs.YtmbonngjkgcijaaGreatDoor
open Go.RowKit Go.Shelf Go.Lib


def numV (n : Nat) : Int := if n % 2 = 1 then -1 - ((n / 2 : Nat) : Int) else ((n / 2 : Nat) : Int)
theorem numV_numN (m : Int) : numV (numN m) = m := by
  unfold numV numN
  by_cases h : m < 0
  · rw [if_pos h, if_pos (by omega)]; omega
  · rw [if_neg h, if_neg (by omega)]; omega
set_option maxRecDepth 100000 in
set_option maxHeartbeats 2000000 in
theorem rnum_ok {w : World} {g : Nat} {A : Option Addr} {cap : Nat} {bs : List UInt8} {pos n sz : Nat} (h : Rd w g A cap bs pos .nilIface []) (hp : natP (bs.drop pos) = some (n, sz)) (hn : n ≤ 18446744073709551615) :
    Calls Tryz.prog 151 #[.pointer (some ⟨g, 0, none⟩)] w fun e w' => e = .returned (.int .i64 (numV n)) ∧ Rd w' g A cap bs (pos + sz) .nilIface [] ∧ Only g w w' := by
  have HN := Lib.hid (rnat_ok h hp)
  clear h hp
  have q0 : (0 : Int) ≤ (n : Int) := by omega
  have q1 : (n : Int) ≤ 18446744073709551615 := by omega
  by_cases h2 : n % 2 = 1
  · have e : numV n = -1 - (n : Int) / 2 := by unfold numV; rw [if_pos h2]; omega
    rw [e]
    have h2' : (n : Int) % 2 = 1 := by omega
    have q2 : (n : Int) / 2 ≤ 9223372036854775807 := by omega
    have q3 : (0 : Int) ≤ (n : Int) / 2 := by omega
    go_enter Tryz.func151, Tryz.ntmps151
    go_wp2_with fail
    refine (HN.out).mono ?_
    rintro e w1 ⟨rfl, hR, hO⟩
    have HR := Lib.hid hR
    have HO := Lib.hid hO
    clear hR hO
    go_wp2
    go_ret
    exact ⟨rfl, HR.out, HO.out⟩
  · have e : numV n = (n : Int) / 2 := by unfold numV; rw [if_neg h2]; omega
    rw [e]
    have h2' : ¬ (n : Int) % 2 = 1 := by omega
    have q2 : (n : Int) / 2 ≤ 9223372036854775807 := by omega
    have q3 : (0 : Int) ≤ (n : Int) / 2 := by omega
    go_enter Tryz.func151, Tryz.ntmps151
    go_wp2_with fail
    refine (HN.out).mono ?_
    rintro e w1 ⟨rfl, hR, hO⟩
    have HR := Lib.hid hR
    have HO := Lib.hid hO
    clear hR hO
    go_wp2
    go_ret
    exact ⟨rfl, HR.out, HO.out⟩
set_option maxRecDepth 100000 in
set_option maxHeartbeats 2000000 in
theorem count_ok {w : World} {g : Nat} {A : Option Addr} {cap : Nat} {bs : List UInt8} {pos n sz most : Nat} (h : Rd w g A cap bs pos .nilIface []) (hp : natP (bs.drop pos) = some (n, sz)) (hmost : n ≤ most) (hm64 : most ≤ 1073741824) :
    Calls Tryz.prog 108 #[.pointer (some ⟨g, 0, none⟩), .int .i64 (most : Int)] w fun e w' => e = .returned (.int .i64 (n : Int)) ∧ Rd w' g A cap bs (pos + sz) .nilIface [] ∧ Only g w w' := by
  have HG := Lib.hid (good_yes h)
  have HN := Lib.hid (rnat_ok h hp)
  have c1 := cell_of_row w g 1 _ _ _ h.blk
  simp at c1
  have q1 : (n : Int) ≤ (most : Int) := by omega
  have q2 : (0 : Int) ≤ (most : Int) := by omega
  have q3 : (most : Int) ≤ 1073741824 := by omega
  have q4 : (0 : Int) ≤ (n : Int) := by omega
  clear h hp
  go_enter Tryz.func108, Tryz.ntmps108
  go_wp2_with fail
  refine (HG.out).mono ?_
  rintro e w' ⟨rfl, rfl⟩
  go_wp2_with fail
  refine (HN.out).mono ?_
  rintro e w1 ⟨rfl, hR, hO⟩
  have HR := Lib.hid hR
  have HO := Lib.hid hO
  clear hR hO c1
  go_wp2
  go_ret
  exact ⟨rfl, HR.out, HO.out⟩
set_option maxRecDepth 100000 in
set_option maxHeartbeats 2000000 in
theorem rstr_ok {w : World} {g : Nat} {A : Option Addr} {cap : Nat} {bs : List UInt8} {pos n sz most : Nat} (h : Rd w g A cap bs pos .nilIface []) (hp : natP (bs.drop pos) = some (n, sz)) (hmost : n ≤ most) (hm64 : most ≤ 1073741824) (hend : pos + sz + n ≤ bs.length) :
    Calls Tryz.prog 61 #[.pointer (some ⟨g, 0, none⟩), .int .i64 (most : Int)] w fun e w' => e = .returned (.string ⟨((bs.drop (pos + sz)).take n).toArray⟩) ∧ Rd w' g A cap bs (pos + sz + n) .nilIface [] ∧ Only g w w' := by
  have HG := Lib.hid (good_yes h)
  have hN := count_ok h hp hmost hm64
  have hs := natP_size hp
  rw [List.length_drop] at hs
  have hlt : pos < bs.length := by omega
  obtain ⟨gb, rfl, hgg, hgl, _⟩ := h.byt 0 bs[0] (List.getElem?_eq_getElem (by omega))
  have hm := h.max
  unfold maxLen at hm
  have hle := h.le
  have c1 := cell_of_row w g 1 _ _ _ h.blk
  simp at c1
  clear h hp
  have hps0 : pos ≤ pos + sz := by omega
  generalize hps : pos + sz = p at *
  have HN := Lib.hid hN
  clear hN
  go_enter Tryz.func61, Tryz.ntmps61
  go_wp2_with fail
  refine (HG.out).mono ?_
  rintro e w' ⟨rfl, rfl⟩
  go_wp2_with fail
  refine (HN.out).mono ?_
  rintro e w1 ⟨rfl, hR, hO⟩
  have HR := Lib.hid hR
  have HO := Lib.hid hO
  have HG2 := Lib.hid (good_yes hR)
  have HL := Lib.hid (left_any hR)
  have d0 := cell_of_row w1 g 0 _ _ _ hR.blk
  have d1 := cell_of_row w1 g 1 _ _ _ hR.blk
  have f1 := free0 hR.blk 1
  simp at d0 d1
  clear hR hO c1
  have q0 : (0 : Int) ≤ (p : Int) := by omega
  have q1 : (p : Int) + (n : Int) ≤ (bs.length : Int) := by omega
  have q2 : (bs.length : Int) ≤ 9223372036854775807 := by omega
  have q5 : (p : Int) ≤ 9223372036854775807 := by omega
  have q6 : (p : Int) + (n : Int) ≤ 9223372036854775807 := by omega
  have q7 : p ≤ p + n := by omega
  have q10 : ((p : Int) + (n : Int)).toNat = p + n := by omega
  have q11 : (p : Int) + (n : Int) ≤ (cap : Int) := by omega
  have q12 : p + n - p = n := by omega
  have hw : IntKind.i64.wrap (p : Int) = (p : Int) := Go.IntWalk.i64_in _ (by omega)
  have q8 : p + n ≤ cap := by omega
  have q9 : p + n ≤ bs.length := by omega
  clear hm hps hs
  have q3 : (0 : Int) ≤ (n : Int) := by omega
  have q4 : (n : Int) ≤ (bs.length : Int) - (p : Int) := by omega
  go_wp2_with fail
  refine (HG2.out).mono ?_
  rintro e w' ⟨rfl, rfl⟩
  go_wp2_with fail
  refine (HL.out).mono ?_
  rintro e w2 ⟨rfl, k2, rfl⟩
  go_wp2_with fail
  have hcv : Hid (∀ (a : Addr) (c m : Nat), (n ≠ 0 → a = ⟨gb, p, none⟩) → (convert 54 9 (.slice (some a) n c)).run Tryz.prog (((w1.drewN k2).setCell ⟨g, 1, none⟩ (.int .i64 ((p : Int) + (n : Int)))).drewN m) = .ok (.string ⟨((bs.drop p).take n).toArray⟩) (((w1.drewN k2).setCell ⟨g, 1, none⟩ (.int .i64 ((p : Int) + (n : Int)))).drewN m)) := by
    intro a c m ha
    have hln : ((bs.drop p).take n).length = n := by rw [List.length_take, List.length_drop]; omega
    have := run_convert_bytes_back (P := Tryz.prog) (((w1.drewN k2).setCell ⟨g, 1, none⟩ (.int .i64 ((p : Int) + (n : Int)))).drewN m) 54 9 5 a c ((bs.drop p).take n) Tryz.underlying54 Tryz.underlying5 Tryz.underlying9 (fun j hj => by
      rw [hln] at hj
      obtain rfl := ha (by omega)
      have hb : bs[p + j]? = some bs[p + j] := List.getElem?_eq_getElem (by omega)
      obtain ⟨gb', e, h1, h2, h3⟩ := HR.out.byt (p + j) _ hb
      cases e
      rw [addo]
      have hmv := (HR.out.move k2 (p + n) q9).2
      have e2 : ((p + n : Nat) : Int) = (p : Int) + (n : Int) := by omega
      rw [e2] at hmv
      have := (World.cell?_of_block (a := ⟨gb, p + j, none⟩) (hmv.block gb h2 h1)).trans h3
      have e3 : ((bs.drop p).take n)[j]'(by rw [hln]; exact hj) = bs[p + j] := by simp
      rw [e3]
      exact this)
    rw [hln] at this
    exact this
  have hmv := HR.out.move k2 (p + n) q9
  have e2 : ((p + n : Nat) : Int) = (p : Int) + (n : Int) := by omega
  rw [e2] at hmv
  have HMV := Lib.hid hmv
  clear hmv e2
  by_cases hcp : cap = p
  · have hn0 : n = 0 := by omega
    have hcv' := fun m => hcv.out ⟨gb, 0, none⟩ 0 m (fun h => absurd hn0 h)
    clear hn0
    subst hcp
    go_quiet (fail)
    go_wp2
    go_ret
    exact ⟨rfl, HMV.out.1.below (below_drewN (Below.refl _ _) _), (HO.out.trans HMV.out.2).trans (Only.of_below (below_drewN (Below.refl _ _) _))⟩
  · have hcv' := fun m => hcv.out ⟨gb, p, none⟩ (cap - p) m (fun _ => rfl)
    go_quiet (fail)
    go_wp2
    go_ret
    exact ⟨rfl, HMV.out.1.below (below_drewN (Below.refl _ _) _), (HO.out.trans HMV.out.2).trans (Only.of_below (below_drewN (Below.refl _ _) _))⟩


def strP (most : Nat) (l : List UInt8) : Option (ByteArray × Nat) :=
  match natP l with
  | none => none
  | some (n, sz) => if most < n then none else if l.length < sz + n then none else some (⟨((l.drop sz).take n).toArray⟩, sz + n)
theorem rstr_P {w : World} {g : Nat} {A : Option Addr} {cap : Nat} {bs : List UInt8} {pos k most : Nat} {s : ByteArray} (h : Rd w g A cap bs pos .nilIface []) (hp : strP most (bs.drop pos) = some (s, k)) (hm64 : most ≤ 1073741824) :
    Calls Tryz.prog 61 #[.pointer (some ⟨g, 0, none⟩), .int .i64 (most : Int)] w fun e w' => e = .returned (.string s) ∧ Rd w' g A cap bs (pos + k) .nilIface [] ∧ Only g w w' := by
  unfold strP at hp
  split at hp
  · cases hp
  · rename_i n sz hn
    split at hp
    · cases hp
    · rename_i h1
      split at hp
      · cases hp
      · rename_i h2
        rw [List.length_drop] at h2
        have hs := natP_size hn
        rw [List.length_drop] at hs
        have e := Option.some.inj hp
        have e1 : (⟨(((bs.drop pos).drop sz).take n).toArray⟩ : ByteArray) = s := congrArg Prod.fst e
        have e2 : sz + n = k := congrArg Prod.snd e
        subst e2
        rw [List.drop_drop] at e1
        subst e1
        have := rstr_ok h hn (by omega) hm64 (by have := h.pos_le; omega)
        rw [show pos + (sz + n) = pos + sz + n from by omega]
        exact this
theorem Only.below_after {B g : Nat} {a b c : World} (h : Only g a b) (hb : Below B b c) (hB : a.heap.size ≤ B) : Only g a c :=
  ⟨hb.os.trans h.os, hb.tape.trans h.tape, hb.output.trans h.output, Nat.le_trans h.size hb.size, fun i hi hne => (hb.block i (Nat.lt_of_lt_of_le hi hB)).trans (h.block i hi hne)⟩
set_option maxRecDepth 100000 in
set_option maxHeartbeats 1000000 in
theorem rend_ok {w : World} {g : Nat} {A : Option Addr} {cap : Nat} {bs : List UInt8} (hG : Glob w) (h : Rd w g A cap bs bs.length .nilIface []) :
    Calls Tryz.prog 62 #[.pointer (some ⟨g, 0, none⟩)] w fun e w' => e = .returned (.int .i64 0) ∧ Below w.heap.size w w' := by
  have HG := Lib.hid (good_yes h)
  have HL := Lib.hid (left_any h)
  have HE := Lib.hid (fun k => rerr_any (hG.below (below_drewN (Below.refl _ _) k)) (h.below (below_drewN (Below.refl _ _) k)) (fun e he => by simp at he) (by decide))
  clear h hG
  go_enter Tryz.func62, Tryz.ntmps62
  go_wp2_with fail
  refine (HG.out).mono ?_
  rintro e w' ⟨rfl, rfl⟩
  go_wp2_with fail
  refine (HL.out).mono ?_
  rintro e w2 ⟨rfl, k2, rfl⟩
  go_wp2_with fail
  refine (HE.out k2).mono ?_
  rintro e w3 ⟨rfl, hb⟩
  rw [show codeOf [] = 0 from rfl]
  have HB := Lib.hid ((below_drewN (Below.refl w.heap.size w) k2).trans hb)
  clear hb
  go_wp2
  go_ret
  exact ⟨rfl, HB.out⟩
end Go.Proofs.YtmbonngjkgcijaaGreatDoor
