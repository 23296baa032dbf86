/- The law file function cut, at every slice of links. -/
import Derived.Test.YtakdhhapckcnaaaDoorErrG
import Derived.Deep.Slices
import Derived.OwnWalk
set_option linter.unusedSimpArgs false
set_option linter.unusedVariables false
namespace Go.Proofs.YtakdhhapckcnaaaDoor
open Go.RowKit

structure L6 where
  kind : Int
  e : Int
  place : Int
  name : ByteArray
  l : Int
  g : Int

def L6.cells (x : L6) : List Value := [.int .i64 x.kind, .int .i64 x.e, .int .i64 x.place, .string x.name, .int .i64 x.l, .int .i64 x.g]
def flat (ls : List L6) : List Value := ls.flatMap L6.cells
theorem add_block (a : Addr) (n : Nat) : (a.add n).block = a.block := by unfold Addr.add; split <;> rfl
/-- The six cells of a link at address p. -/
structure At6 (w : World) (p : Addr) (x : L6) : Prop where
  c0 : w.cell? p = some (.int .i64 x.kind)
  c1 : w.cell? ⟨p.block, p.off + 1, none⟩ = some (.int .i64 x.e)
  c2 : w.cell? ⟨p.block, p.off + 2, none⟩ = some (.int .i64 x.place)
  c3 : w.cell? ⟨p.block, p.off + 3, none⟩ = some (.string x.name)
  c4 : w.cell? ⟨p.block, p.off + 4, none⟩ = some (.int .i64 x.l)
  c5 : w.cell? ⟨p.block, p.off + 5, none⟩ = some (.int .i64 x.g)
theorem At6.below {w w' : World} {B : Nat} {p : Addr} {x : L6} (h : At6 w p x) (hb : Below B w w') (hp : p.block < B) : At6 w' p x :=
  ⟨(hb.cell hp).trans h.c0, (hb.cell (p := ⟨p.block, p.off + 1, none⟩) hp).trans h.c1, (hb.cell (p := ⟨p.block, p.off + 2, none⟩) hp).trans h.c2, (hb.cell (p := ⟨p.block, p.off + 3, none⟩) hp).trans h.c3, (hb.cell (p := ⟨p.block, p.off + 4, none⟩) hp).trans h.c4, (hb.cell (p := ⟨p.block, p.off + 5, none⟩) hp).trans h.c5⟩

/-- A slice value that reads as links. -/
def SlIs (w : World) (v : Value) (ls : List L6) : Prop :=
  (v = .slice none 0 0 ∧ ls = []) ∨ ∃ a cap, v = .slice (some a) ls.length cap ∧ ls.length ≤ cap ∧ cap ≤ maxLen ∧ a.block < w.heap.size ∧ ∀ i x, ls[i]? = some x → At6 w (a.add (i * 6)) x

def cutOne (x : L6) : L6 := { x with kind := if x.kind.tmod 4 < 0 then -x.kind.tmod 4 else x.kind.tmod 4, name := if 40 < x.name.size then x.name.extract 0 40 else x.name }
def cutL (ls : List L6) : List L6 := (ls.take 30).map cutOne

theorem add0 (g n : Nat) : (⟨g, 0, none⟩ : Addr).add n = ⟨g, n, none⟩ := by
  unfold Addr.add
  split
  · subst n; rfl
  · simp
theorem flat_snoc (ls : List L6) (x : L6) : flat (ls ++ [x]) = flat ls ++ x.cells := by simp [flat]
theorem flat_length (ls : List L6) : (flat ls).length = ls.length * 6 := by
  induction ls with
  | nil => rfl
  | cons x r ih =>
    have : flat (x :: r) = x.cells ++ flat r := rfl
    rw [this, List.length_append, ih]
    simp [L6.cells]; omega
theorem flat_at (ls : List L6) : ∀ (i j : Nat) (x : L6), ls[i]? = some x → j < 6 → (flat ls)[i * 6 + j]? = x.cells[j]? := by
  induction ls with
  | nil => intro i j x h; simp at h
  | cons y r ih =>
    intro i j x h hj
    have e : flat (y :: r) = y.cells ++ flat r := rfl
    have hl : y.cells.length = 6 := rfl
    cases i with
    | zero =>
      have : y = x := by simpa using h
      subst this
      rw [e, List.getElem?_append_left (by rw [hl]; omega)]
      simp
    | succ i =>
      rw [e, List.getElem?_append_right (by rw [hl]; omega), hl]
      have : (i + 1) * 6 + j - 6 = i * 6 + j := by omega
      rw [this]
      exact ih i j x (by simpa using h) hj
theorem sl_of_own {w : World} {base : Nat} {v : Value} {ls : List L6} (h : w.ownsRow base 42 6 v ls.length (flat ls)) : SlIs w v ls := by
  obtain ⟨_, h1 | ⟨g, cap, cur, rfl, hg, hh, hn, hc, hs, ht⟩⟩ := id h
  · exact .inl ⟨h1.1, List.eq_nil_of_length_eq_zero h1.2⟩
  · refine .inr ⟨⟨g, 0, none⟩, cap, rfl, hn, hc, ErrIs.lt hh, fun i x hx => ?_⟩
    have hc := h.cells (g := g) rfl
    have f : ∀ j u, j < 6 → x.cells[j]? = some u → w.cell? ⟨g, i * 6 + j, none⟩ = some u := fun j u hj hu => by
      rw [← add0]; exact hc _ u ((flat_at ls i j x hx hj).trans hu)
    rw [add0]
    exact ⟨f 0 _ (by omega) rfl, f 1 _ (by omega) rfl, f 2 _ (by omega) rfl, f 3 _ (by omega) rfl, f 4 _ (by omega) rfl, f 5 _ (by omega) rfl⟩
theorem SlIs.below {w w' : World} {B : Nat} {v : Value} {ls : List L6} (h : SlIs w v ls) (hb : Below B w w') (hB : w.heap.size ≤ B) : SlIs w' v ls := by
  rcases h with h | ⟨a, cap, hv, h1, h2, h3, h4⟩
  · exact .inl h
  · exact .inr ⟨a, cap, hv, h1, h2, Nat.lt_of_lt_of_le h3 hb.size, fun i x hx => (h4 i x hx).below hb (by rw [add_block]; omega)⟩
theorem cutL_snoc {ls : List L6} {k : Nat} {x : L6} (hx : ls[k]? = some x) (hk : k < 30) : cutL (ls.take (k + 1)) = cutL (ls.take k) ++ [cutOne x] := by
  have hlt : k < ls.length := (List.getElem?_eq_some_iff.1 hx).1
  unfold cutL
  rw [List.take_take, List.take_take, Nat.min_eq_right (by omega), Nat.min_eq_right (by omega), List.take_succ_eq_append_getElem hlt, List.map_append]
  have : ls[k] = x := (List.getElem?_eq_some_iff.1 hx).2
  rw [this]; rfl
theorem cutL_take {ls : List L6} {k : Nat} (hk : k ≤ 30) : (cutL (ls.take k)).length = min k ls.length := by
  unfold cutL; simp; omega
theorem cutL_all {ls : List L6} {k : Nat} (h : 30 ≤ k ∨ ls.length ≤ k) : cutL (ls.take k) = cutL ls := by
  unfold cutL
  rw [List.take_take]
  rcases h with h | h
  · rw [Nat.min_eq_left h]
  · rcases Nat.le_total 30 k with h1 | h1
    · rw [Nat.min_eq_left h1]
    · rw [Nat.min_eq_right h1, List.take_of_length_le h, List.take_of_length_le (Nat.le_trans h h1)]
theorem six_new (W : World) (n : Nat) (hn : W.heap.size = n) (c0 c1 c2 c3 c4 c5 : Value) : ∀ j u, [c0, c1, c2, c3, c4, c5][j]? = some u → (W.alloc (.cells #[c0, c1, c2, c3, c4, c5] 42)).cell? ((⟨n, 0, none⟩ : Addr).add j) = some u := by
  intro j u h
  subst hn
  rw [add0, cell_of_row _ _ _ _ _ _ (heap_alloc_new W _)]
  simpa using h
theorem info42 : (Tryd.prog.info? 42).map (fun i => (i.zero, i.size, i.bytes)) = some (some (.agg #[.int .i64 0, .int .i64 0, .int .i64 0, .string ⟨#[]⟩, .int .i64 0, .int .i64 0]), 6, 56) := by kernel_rfl
theorem cells_one (a b c : Int) (s : ByteArray) (l g : Int) : ∀ u ∈ [Value.int .i64 a, .int .i64 b, .int .i64 c, .string s, .int .i64 l, .int .i64 g], u.oneCell' = true := by
  simp [Value.oneCell']
/-- what a round of cut leaves -/
theorem cut_rel {w wr w1 w' : World} {ls : List L6} {k : Nat} {x : L6} {u v' : Value} {xs : List Value} (hx : ls[k]? = some x) (hk : k < 30) (hb : Below w.heap.size w wr) (hb1 : Below wr.heap.size wr w1)
    (hown : wr.ownsRow w.heap.size 42 6 u k (flat (cutL (ls.take k)))) (hxs : xs = (cutOne x).cells) (hown' : w'.ownsRow w.heap.size 42 6 v' (k + 1) (flat (cutL (ls.take k)) ++ xs)) (hg : w1.grownBy w' u.ownBlock) :
    w'.ownsRow w.heap.size 42 6 v' (k + 1) (flat (cutL (ls.take (k + 1)))) ∧ Below w.heap.size w w' := by
  constructor
  · rw [cutL_snoc hx hk, flat_snoc, ← hxs]; exact hown'
  · exact (hb.trans (hb1.mono hb.size)).grown hg (Nat.le_trans hb.size hb1.size) (fun j hj => (hown.lt j hj).1)
theorem tmod_bd (n : Int) : -4 < n.tmod 4 ∧ n.tmod 4 < 4 := by
  constructor
  · have := Int.lt_tmod_of_pos n (b := 4) (by omega); simpa using this
  · exact Int.tmod_lt_of_pos n (by omega)

set_option maxRecDepth 100000 in
set_option maxHeartbeats 2000000 in
theorem cut_some {w : World} {a : Addr} {cap : Nat} {ls : List L6} (hlc : ls.length ≤ cap) (hcm : cap ≤ maxLen) (hal : a.block < w.heap.size) (h6 : ∀ i x, ls[i]? = some x → At6 w (a.add (i * 6)) x) :
    Calls Tryd.prog 13 #[.slice (some a) ls.length cap] w fun e w' => ∃ v, e = .returned v ∧ SlIs w' v (cutL ls) ∧ Below w.heap.size w w' := by
  unfold maxLen at hcm
  have hlm : ls.length ≤ 9223372036854775807 := by omega
  obtain ⟨i0, hi, hz0, hz1, hz2⟩ := info_parts info42
  go_enter Tryd.func13, Tryd.ntmps13
  go_wp2_with fail
  go_loopw [3, 8] (fun v i wr => ∃ k : Nat, k ≤ ls.length ∧ k ≤ 30 ∧ i = .int .i64 k ∧ wr.ownsRow w.heap.size 42 6 v k (flat (cutL (ls.take k))) ∧ Below w.heap.size w wr) (fun _ i _ => ls.length - (intOf i).toNat)
  case atStart => exact ⟨0, by omega, by omega, rfl, World.ownsRow_nil _ _ _ _, Below.refl _ _⟩
  case round =>
    obtain ⟨k, hk, hk30, rfl, hown, hb⟩ := hrel
    by_cases hlt : k < ls.length
    · have hx : ls[k]? = some ls[k] := List.getElem?_eq_getElem hlt
      generalize ls[k] = x at hx
      have hpb : (a.add (k * 6)).block < w.heap.size := by rw [add_block]; exact hal
      obtain ⟨c0, c1, c2, c3, c4, c5⟩ := (h6 k x hx).below hb hpb
      have HX := Lib.hid hx
      have HB := Lib.hid hb
      have HO := Lib.hid hown
      have hszw : w.heap.size ≤ wr.heap.size := hb.size
      clear hx hb h6 hpb hown
      have hq1 := (tmod_bd x.kind).1
      have hq2 := (tmod_bd x.kind).2
      by_cases hk2 : (k : Int) < 30
      · have hkn : k < 30 := by omega
        by_cases hneg : x.kind.tmod 4 < 0
        · by_cases hlong : 40 < x.name.size
          · go_wp2_with (at_builtin; refine wpList_append_own _ rfl _ _ 22 rfl w.heap.size 42 i0 _ 6 56 Tryd.underlying22 hi hz0 hz1 hz2 rfl (by decide) _ _ _ rfl ((HO.out.alloc _).alloc _) ⟨wr.heap.size + 1, 0, none⟩ 1 1 [.int .i64 (-x.kind.tmod 4), .int .i64 x.e, .int .i64 x.place, .string (x.name.extract 0 40), .int .i64 x.l, .int .i64 x.g] rfl rfl (six_new _ _ (heap_size_alloc_cells wr _ 42) _ _ _ _ _ _) (cells_one _ _ _ _ _ _) ?_ ?_ ?_ ?_)
            · unfold maxLen; omega
            · omega
            · (try simp); omega
            intro v' w' hown' hgrow _
            have HR := Lib.hid (cut_rel (xs := [.int .i64 (-x.kind.tmod 4), .int .i64 x.e, .int .i64 x.place, .string (x.name.extract 0 40), .int .i64 x.l, .int .i64 x.g]) HX.out hkn HB.out (((Below.refl _ _).alloc (Nat.le_refl _) _).alloc (by simp) _) HO.out (by simp [cutOne, L6.cells, hneg, hlong] <;> omega) hown' hgrow)
            clear hown' hgrow
            go_wp2
            go_roundw
            case rel => exact ⟨k + 1, by omega, by omega, by go_num, HR.out.1, HR.out.2⟩
            case measure => simp [intOf]; omega
          · go_wp2_with (at_builtin; refine wpList_append_own _ rfl _ _ 22 rfl w.heap.size 42 i0 _ 6 56 Tryd.underlying22 hi hz0 hz1 hz2 rfl (by decide) _ _ _ rfl ((HO.out.alloc _).alloc _) ⟨wr.heap.size + 1, 0, none⟩ 1 1 [.int .i64 (-x.kind.tmod 4), .int .i64 x.e, .int .i64 x.place, .string x.name, .int .i64 x.l, .int .i64 x.g] rfl rfl (six_new _ _ (heap_size_alloc_cells wr _ 42) _ _ _ _ _ _) (cells_one _ _ _ _ _ _) ?_ ?_ ?_ ?_)
            · unfold maxLen; omega
            · omega
            · (try simp); omega
            intro v' w' hown' hgrow _
            have HR := Lib.hid (cut_rel (xs := [.int .i64 (-x.kind.tmod 4), .int .i64 x.e, .int .i64 x.place, .string x.name, .int .i64 x.l, .int .i64 x.g]) HX.out hkn HB.out (((Below.refl _ _).alloc (Nat.le_refl _) _).alloc (by simp) _) HO.out (by simp [cutOne, L6.cells, hneg, hlong] <;> omega) hown' hgrow)
            clear hown' hgrow
            go_wp2
            go_roundw
            case rel => exact ⟨k + 1, by omega, by omega, by go_num, HR.out.1, HR.out.2⟩
            case measure => simp [intOf]; omega
        · by_cases hlong : 40 < x.name.size
          · go_wp2_with (at_builtin; refine wpList_append_own _ rfl _ _ 22 rfl w.heap.size 42 i0 _ 6 56 Tryd.underlying22 hi hz0 hz1 hz2 rfl (by decide) _ _ _ rfl ((HO.out.alloc _).alloc _) ⟨wr.heap.size + 1, 0, none⟩ 1 1 [.int .i64 (x.kind.tmod 4), .int .i64 x.e, .int .i64 x.place, .string (x.name.extract 0 40), .int .i64 x.l, .int .i64 x.g] rfl rfl (six_new _ _ (heap_size_alloc_cells wr _ 42) _ _ _ _ _ _) (cells_one _ _ _ _ _ _) ?_ ?_ ?_ ?_)
            · unfold maxLen; omega
            · omega
            · (try simp); omega
            intro v' w' hown' hgrow _
            have HR := Lib.hid (cut_rel (xs := [.int .i64 (x.kind.tmod 4), .int .i64 x.e, .int .i64 x.place, .string (x.name.extract 0 40), .int .i64 x.l, .int .i64 x.g]) HX.out hkn HB.out (((Below.refl _ _).alloc (Nat.le_refl _) _).alloc (by simp) _) HO.out (by simp [cutOne, L6.cells, hneg, hlong] <;> omega) hown' hgrow)
            clear hown' hgrow
            go_wp2
            go_roundw
            case rel => exact ⟨k + 1, by omega, by omega, by go_num, HR.out.1, HR.out.2⟩
            case measure => simp [intOf]; omega
          · go_wp2_with (at_builtin; refine wpList_append_own _ rfl _ _ 22 rfl w.heap.size 42 i0 _ 6 56 Tryd.underlying22 hi hz0 hz1 hz2 rfl (by decide) _ _ _ rfl ((HO.out.alloc _).alloc _) ⟨wr.heap.size + 1, 0, none⟩ 1 1 [.int .i64 (x.kind.tmod 4), .int .i64 x.e, .int .i64 x.place, .string x.name, .int .i64 x.l, .int .i64 x.g] rfl rfl (six_new _ _ (heap_size_alloc_cells wr _ 42) _ _ _ _ _ _) (cells_one _ _ _ _ _ _) ?_ ?_ ?_ ?_)
            · unfold maxLen; omega
            · omega
            · (try simp); omega
            intro v' w' hown' hgrow _
            have HR := Lib.hid (cut_rel (xs := [.int .i64 (x.kind.tmod 4), .int .i64 x.e, .int .i64 x.place, .string x.name, .int .i64 x.l, .int .i64 x.g]) HX.out hkn HB.out (((Below.refl _ _).alloc (Nat.le_refl _) _).alloc (by simp) _) HO.out (by simp [cutOne, L6.cells, hneg, hlong] <;> omega) hown' hgrow)
            clear hown' hgrow
            go_wp2
            go_roundw
            case rel => exact ⟨k + 1, by omega, by omega, by go_num, HR.out.1, HR.out.2⟩
            case measure => simp [intOf]; omega
      · have hk30' : 30 ≤ (k : Int) := by omega
        have hkn : 30 ≤ k := by omega
        go_wp2
        go_ret
        refine ⟨_, rfl, ?_, HB.out.alloc hszw _⟩
        have := HO.out
        have hl : (cutL ls).length = k := by rw [← cutL_all (ls := ls) (k := k) (.inl hkn), cutL_take hk30]; omega
        rw [cutL_all (.inl hkn)] at this
        exact (sl_of_own (by rw [hl]; exact this)).below ((Below.refl _ _).alloc (Nat.le_refl _) _) (Nat.le_refl _)
    · have hkn : ls.length ≤ k := by omega
      have HB := Lib.hid hb
      have HO := Lib.hid hown
      clear hb h6 hown
      go_wp2
      go_ret
      refine ⟨_, rfl, ?_, HB.out⟩
      have := HO.out
      have hl : (cutL ls).length = k := by rw [← cutL_all (ls := ls) (k := k) (.inr hkn), cutL_take hk30]; omega
      rw [cutL_all (.inr hkn)] at this
      exact sl_of_own (by rw [hl]; exact this)
theorem cut_any {w : World} {v : Value} {ls : List L6} (h : SlIs w v ls) :
    Calls Tryd.prog 13 #[v] w fun e w' => ∃ v, e = .returned v ∧ SlIs w' v (cutL ls) ∧ Below w.heap.size w w' := by
  rcases h with ⟨rfl, rfl⟩ | ⟨a, cap, rfl, h1, h2, h3, h4⟩
  · go_enter Tryd.func13, Tryd.ntmps13
    go_wp2
    refine wp_loop_rounds 1 ?_
    rw [rounds_succ]
    go_wp2
    go_ret
    exact ⟨_, rfl, .inl ⟨rfl, rfl⟩, Below.refl _ _⟩
  · exact cut_some h1 h2 h3 h4
end Go.Proofs.YtakdhhapckcnaaaDoor
