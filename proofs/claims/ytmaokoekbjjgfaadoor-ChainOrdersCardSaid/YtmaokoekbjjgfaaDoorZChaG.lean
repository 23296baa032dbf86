/- read, where its time is written down. -/
import Derived.Test.YtmaokoekbjjgfaaDoorZChaF
set_option linter.unusedSimpArgs false
set_option linter.unusedVariables false
set_option linter.unnecessarySimpa false
namespace Go.Proofs.YtmaokoekbjjgfaaDoor
open Go.RowKit Go.Shelf

theorem put5_own (W : World) (b o : Nat) (x0 x1 x2 x3 x4 : Value) : Touch (fun k => k = b) W (put5 W b o x0 x1 x2 x3 x4) :=
  ((((((Touch.refl (fun k => k = b) W).setCell ⟨b, o, none⟩ (fun _ => rfl) _).setCell ⟨b, o + 1, none⟩ (fun _ => rfl) _).setCell ⟨b, o + 2, none⟩ (fun _ => rfl) _).setCell ⟨b, o + 3, none⟩ (fun _ => rfl) _).setCell ⟨b, o + 4, none⟩ (fun _ => rfl) _)
theorem ChAt.touch {S : Nat → Prop} {w w' : World} {c : Nat} {v : Value} {L : List Ver} (h : ChAt w c v L) (ht : Touch S w w') (hc : ¬ S c) (hv : ∀ g, v.ownBlock = some g → ¬ S g) : ChAt w' c v L :=
  ⟨(ht.block c (heap_lt h.head) hc).trans h.head, h.row.touch ht hv, h.off⟩
set_option maxRecDepth 100000 in
set_option maxHeartbeats 4000000 in
theorem read_ok {w : World} {c : Nat} {v : Value} {L : List Ver} {t : Int} {k : Nat} {u : Ver} (h : ChAt w c v L) (hr : Ris L) (hl : L.length ≤ 1000000) (ht : InR64 t) (ho : okT t = true) (hk : cnt L t = k + 1) (hu : L[k]? = some u) (hut : u.at_ ≠ t) (hop : u.opn = false) (hur : InR64 u.read) :
    Calls Tryd.prog 29 #[.pointer (some ⟨c, 0, none⟩), .int .i64 t] w fun e w' => e = .returned (.tuple #[aggV { u with read := max u.read t }, .nilIface]) ∧ ChAt w' c v (L.set k { u with read := max u.read t }) ∧ Touch (fun b => v.ownBlock = some b) w w' := by
  have hf := findE_nil ho (L := L) (by omega)
  have HF := Lib.hid (fun (W : World) (hb : Below w.heap.size w W) => find_any (t := t) (h.below hb) hr hl ht)
  rw [hf] at HF
  have HC := Lib.hid h
  have hkl := (List.getElem?_eq_some_iff.1 hu).1
  have hkI : (k : Int) < (L.length : Int) := by omega
  have hlI : (L.length : Int) ≤ 1000000 := by omega
  have q1 : (u.at_ == t) = false := by simpa using hut
  clear h hf
  go_enter Tryd.func29, Tryd.ntmps29
  go_wp2_with fail
  refine (HF.out _ (below_new _)).mono ?_
  rintro e w1 ⟨i, ev, rfl, he, hi, hb⟩
  obtain rfl : ev = .nilIface := he.is
  replace hi := hi trivial
  rw [hk] at hi
  obtain rfl : i = (k : Int) := by rw [hi]; omega
  have hz := zero_cells hb
  have z0 := cell_of hz 0
  have z1 := cell_of hz 1
  have z2 := cell_of hz 2
  have z3 := cell_of hz 3
  have z4 := cell_of hz 4
  have f0 := free0 hz 0
  have f1 := free0 hz 1
  have f2 := free0 hz 2
  have f3 := free0 hz 3
  have f4 := free0 hz 4
  simp at z0 z1 z2 z3 z4
  have HB := Lib.hid ((below_new (w := w) _).trans (hb.mono (by rw [asz]; omega)))
  have hC := HC.out.below HB.out
  obtain ⟨g, cap, rfl, hc1, hc2, _, k0, k1, k2, k3, k4⟩ := hC.row.ver hu
  have kc : w1.cell? ⟨c, 0, none⟩ = some (.slice (some ⟨g, 0, none⟩) L.length cap) := cell_of hC.head 0
  rw [hop] at k4
  have hgl : g < w.heap.size := (HC.out.row.lt g rfl)
  have hg1 : (g = w.heap.size) = False := eq_false (by omega)
  have hg2 : (w.heap.size = g) = False := eq_false (by omega)
  have HGL := Lib.hid hgl
  have HU := Lib.hid hu
  have hcc := hC.row
  have fr : w1.frozen? ⟨g, k * 5 + 3, none⟩ = false := by
    rcases hcc with ⟨e, _⟩ | ⟨g', cap', e, _, hle, hc⟩
    · cases e
    · cases e
      exact (hc.there (k * 5 + 3) (by omega)).2
  have HCA := Lib.hid (hC.setV (i := k) (j := 3) (u' := { u with read := max u.read t }) (x := .int .i64 (max u.read t)) hu (by omega) rfl)
  have HTO := Lib.hid ((Touch.of_below (S := fun b => some g = some b) HB.out).setCell ⟨g, k * 5 + 3, none⟩ (fun _ => rfl) (.int .i64 (max u.read t)))
  have HZ := Lib.hid ((Below.heap_setCell w1 ⟨g, k * 5 + 3, none⟩ (.int .i64 (max u.read t)) w.heap.size (by show w.heap.size ≠ g; omega)).trans hz)
  clear hz hu hgl hcc
  clear he hb HF hi hC hc1 hc2 hut hr hl ht ho hk hkl
  go_wp2_with fail
  have hln : (L.set k { u with read := max u.read t }).length = L.length := List.length_set
  rw [hln] at HCA
  have HB2 := Lib.hid (put5_touch HTO.out (Nat.le_refl _) 0 (.int .i64 u.at_) (.int .i64 u.n) (.bool u.there) (.int .i64 (max u.read t)) (.bool false))
  have hcl := heap_lt HC.out.head
  have HC2 := Lib.hid (HCA.out.touch (put5_own (w1.setCell ⟨g, k * 5 + 3, none⟩ (.int .i64 (max u.read t))) w.heap.size 0 (.int .i64 u.at_) (.int .i64 u.n) (.bool u.there) (.int .i64 (max u.read t)) (.bool false)) (fun e => absurd e (Nat.ne_of_lt hcl)) (fun j hj e => absurd (show g = w.heap.size from (Option.some.inj hj).trans e) (Nat.ne_of_lt HGL.out)))
  have HZ2 := Lib.hid (put5_at HZ.out (.int .i64 u.at_) (.int .i64 u.n) (.bool u.there) (.int .i64 (max u.read t)) (.bool false))
  change bodyPost _ _ _ _ _ (put5 (w1.setCell ⟨g, k * 5 + 3, none⟩ (.int .i64 (max u.read t))) w.heap.size 0 (.int .i64 u.at_) (.int .i64 u.n) (.bool u.there) (.int .i64 (max u.read t)) (.bool false))
  generalize put5 (w1.setCell ⟨g, k * 5 + 3, none⟩ (.int .i64 (max u.read t))) w.heap.size 0 (.int .i64 u.at_) (.int .i64 u.n) (.bool u.there) (.int .i64 (max u.read t)) (.bool false) = W5 at *
  have hz := HZ2.out
  have j0 := cell_of hz 0
  have j1 := cell_of hz 1
  have j2 := cell_of hz 2
  have j3 := cell_of hz 3
  have j4 := cell_of hz 4
  simp at j0 j1 j2 j3 j4
  refine bodyPost_ret (v := .tuple #[aggV { u with read := max u.read t }, .nilIface]) (by simp [results, Tryd.results29, go_sem, j0, j1, j2, j3, j4, aggV, hop]) rfl ⟨rfl, HC2.out, HB2.out⟩
end Go.Proofs.YtmaokoekbjjgfaaDoor
