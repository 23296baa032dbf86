/- read, by its outcomes. -/
import Derived.Test.YtmaokoekbjjgfaaDoorZChaD
set_option linter.unusedSimpArgs false
set_option linter.unusedVariables false
set_option linter.unnecessarySimpa false
namespace Go.Proofs.YtmaokoekbjjgfaaDoor
open Go.RowKit Go.Shelf

def zeroV : Value := .agg #[.int .i64 0, .int .i64 0, .bool false, .int .i64 0, .bool false]
theorem zero_cells {w w1 : World} (hb : Below (w.alloc (.cells #[.int .i64 0, .int .i64 0, .bool false, .int .i64 0, .bool false] 47)).heap.size (w.alloc (.cells #[.int .i64 0, .int .i64 0, .bool false, .int .i64 0, .bool false] 47)) w1) : w1.heap[w.heap.size]? = some (.cells #[.int .i64 0, .int .i64 0, .bool false, .int .i64 0, .bool false] 47 (0, 0)) :=
  (hb.block w.heap.size (by rw [asz]; omega)).trans (alloc_at w _)
/-- A version is stored whole. -/
def put5 (W : World) (b o : Nat) (x0 x1 x2 x3 x4 : Value) : World := ((((W.setCell ⟨b, o, none⟩ x0).setCell ⟨b, o + 1, none⟩ x1).setCell ⟨b, o + 2, none⟩ x2).setCell ⟨b, o + 3, none⟩ x3).setCell ⟨b, o + 4, none⟩ x4
theorem put5_at {W : World} {b : Nat} {y0 y1 y2 y3 y4 : Value} {T : TypeId} (h : W.heap[b]? = some (.cells #[y0, y1, y2, y3, y4] T (0, 0))) (x0 x1 x2 x3 x4 : Value) : (put5 W b 0 x0 x1 x2 x3 x4).heap[b]? = some (.cells #[x0, x1, x2, x3, x4] T (0, 0)) := by
  have h0 := set_at h 0 x0
  have h1 := set_at h0 1 x1
  have h2 := set_at h1 2 x2
  have h3 := set_at h2 3 x3
  have h4 := set_at h3 4 x4
  simpa [put5] using h4
theorem put5_below {W w : World} {b : Nat} (hb : Below w.heap.size w W) (hl : w.heap.size ≤ b) (o : Nat) (x0 x1 x2 x3 x4 : Value) : Below w.heap.size w (put5 W b o x0 x1 x2 x3 x4) :=
  ((((hb.setCell (p := ⟨b, o, none⟩) hl _).setCell (p := ⟨b, o + 1, none⟩) hl _).setCell (p := ⟨b, o + 2, none⟩) hl _).setCell (p := ⟨b, o + 3, none⟩) hl _).setCell (p := ⟨b, o + 4, none⟩) hl _
theorem put5_touch {S : Nat → Prop} {W w : World} {b : Nat} (hb : Touch S w W) (hl : w.heap.size ≤ b) (o : Nat) (x0 x1 x2 x3 x4 : Value) : Touch S w (put5 W b o x0 x1 x2 x3 x4) := by
  have key : ∀ j, (⟨b, j, none⟩ : Addr).block < w.heap.size → S (⟨b, j, none⟩ : Addr).block := fun j h => absurd h (Nat.not_lt.2 hl)
  exact ((((hb.setCell ⟨b, o, none⟩ (key _) _).setCell ⟨b, o + 1, none⟩ (key _) _).setCell ⟨b, o + 2, none⟩ (key _) _).setCell ⟨b, o + 3, none⟩ (key _) _).setCell ⟨b, o + 4, none⟩ (key _) _
theorem put5_block {W : World} {b o k : Nat} (hk : k ≠ b) (x0 x1 x2 x3 x4 : Value) : (put5 W b o x0 x1 x2 x3 x4).heap[k]? = W.heap[k]? := by
  unfold put5
  rw [Below.heap_setCell _ _ _ _ hk, Below.heap_setCell _ _ _ _ hk, Below.heap_setCell _ _ _ _ hk, Below.heap_setCell _ _ _ _ hk, Below.heap_setCell _ _ _ _ hk]
theorem ErrNew.put5 {B b o : Nat} {W : World} {k : List Lk} {ev : Value} (h : ErrNew B W k ev) (hb : b < B) (x0 x1 x2 x3 x4 : Value) : ErrNew B (put5 W b o x0 x1 x2 x3 x4) k ev :=
  h.keep (by simp [Proofs.YtmaokoekbjjgfaaDoor.put5, World.setCell]) (fun j h1 _ => put5_block (by omega) ..)
set_option maxRecDepth 100000 in
set_option maxHeartbeats 4000000 in
theorem read_err {w : World} {c : Nat} {v : Value} {L : List Ver} {t : Int} {k : Lk} {r : List Lk} (h : ChAt w c v L) (hr : Ris L) (hl : L.length ≤ 1000000) (ht : InR64 t) (hf : findE L t = k :: r) :
    Calls Tryd.prog 29 #[.pointer (some ⟨c, 0, none⟩), .int .i64 t] w fun e w' => ∃ ev, e = .returned (.tuple #[zeroV, ev]) ∧ ErrNew w.heap.size w' (k :: r) ev ∧ Below w.heap.size w w' := by
  have HF := Lib.hid (fun (W : World) (hb : Below w.heap.size w W) => find_any (t := t) (h.below hb) hr hl ht)
  rw [hf] at HF
  clear h hf
  go_enter Tryd.func29, Tryd.ntmps29
  go_wp2_with fail
  refine (HF.out _ (below_new _)).mono ?_
  rintro e w1 ⟨i, ev, rfl, he, _, hb⟩
  obtain ⟨T, u, rfl⟩ := he.is.form1
  have hz := zero_cells hb
  have c0 := cell_of hz 0
  have c1 := cell_of hz 1
  have c2 := cell_of hz 2
  have c3 := cell_of hz 3
  have c4 := cell_of hz 4
  have f0 := free0 hz 0
  have f1 := free0 hz 1
  have f2 := free0 hz 2
  have f3 := free0 hz 3
  have f4 := free0 hz 4
  simp at c0 c1 c2 c3 c4
  have HE := Lib.hid he
  have HB := Lib.hid ((below_new (w := w) _).trans (hb.mono (by rw [asz]; omega)))
  have HZ := Lib.hid (put5_at hz (.int .i64 0) (.int .i64 0) (.bool false) (.int .i64 0) (.bool false))
  clear he hb hz HF
  go_wp2_with fail
  have HB2 := Lib.hid (put5_below HB.out (Nat.le_refl _) 0 (.int .i64 0) (.int .i64 0) (.bool false) (.int .i64 0) (.bool false))
  have HE2 := Lib.hid (HE.out.put5 (b := w.heap.size) (o := 0) (by rw [asz]; omega) (.int .i64 0) (.int .i64 0) (.bool false) (.int .i64 0) (.bool false))
  change bodyPost _ _ _ _ _ (put5 w1 w.heap.size 0 (.int .i64 0) (.int .i64 0) (.bool false) (.int .i64 0) (.bool false))
  generalize put5 w1 w.heap.size 0 (.int .i64 0) (.int .i64 0) (.bool false) (.int .i64 0) (.bool false) = W5 at *
  have hz := HZ.out
  have k0 := cell_of hz 0
  have k1 := cell_of hz 1
  have k2 := cell_of hz 2
  have k3 := cell_of hz 3
  have k4 := cell_of hz 4
  simp at k0 k1 k2 k3 k4
  refine bodyPost_ret (v := .tuple #[zeroV, .iface T u]) (by simp [results, Tryd.results29, go_sem, k0, k1, k2, k3, k4, zeroV]) rfl ⟨_, rfl, HE2.out.mono (by rw [asz]; omega), HB2.out⟩
end Go.Proofs.YtmaokoekbjjgfaaDoor
