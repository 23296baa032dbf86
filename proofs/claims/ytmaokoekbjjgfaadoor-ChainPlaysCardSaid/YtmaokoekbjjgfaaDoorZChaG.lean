/- read, where its time is written down. Read; version; the calls on a chain that is not there. -/
import Derived.Test.YtmaokoekbjjgfaaDoorZChaF
set_option linter.unusedSimpArgs false
set_option linter.unusedVariables false
set_option linter.unnecessarySimpa false
namespace Go.Proofs.YtmaokoekbjjgfaaDoor
open Go.RowKit Go.Shelf

theorem put5_own (W : World) (b o : Nat) (x0 x1 x2 x3 x4 : Value) : Touch (fun k => k = b) W (put5 W b o x0 x1 x2 x3 x4) :=
  ((((((Touch.refl (fun k => k = b) W).setCell ⟨b, o, none⟩ (fun _ => rfl) _).setCell ⟨b, o + 1, none⟩ (fun _ => rfl) _).setCell ⟨b, o + 2, none⟩ (fun _ => rfl) _).setCell ⟨b, o + 3, none⟩ (fun _ => rfl) _).setCell ⟨b, o + 4, none⟩ (fun _ => rfl) _)
theorem ChAt.touch {S : Nat → Prop} {w w' : World} {c : Nat} {v : Value} {L : List Ver} (h : ChAt w c v L) (ht : Touch S w w') (hc : ¬ S c) (hv : ∀ g, v.ownBlock = some g → ¬ S g) : ChAt w' c v L :=
  ⟨(ht.block c (heap_lt h.head) hc).trans h.head, h.row.touch ht hv, h.off⟩
set_option maxRecDepth 100000 in
set_option maxHeartbeats 4000000 in
theorem read_ok {w : World} {c : Nat} {v : Value} {L : List Ver} {t : Int} {k : Nat} {u : Ver} (h : ChAt w c v L) (hr : Ris L) (hl : L.length ≤ 1000000) (ht : InR64 t) (ho : okT t = true) (hk : cnt L t = k + 1) (hu : L[k]? = some u) (hut : u.at_ ≠ t) (hop : u.opn = false) (hur : InR64 u.read) :
    Calls Tryd.prog 29 #[.pointer (some ⟨c, 0, none⟩), .int .i64 t] w fun e w' => e = .returned (.tuple #[aggV { u with read := max u.read t }, .nilIface]) ∧ ChAt w' c v (L.set k { u with read := max u.read t }) ∧ Touch (fun b => v.ownBlock = some b) w w' := by
  have hf := findE_nil ho (L := L) (by omega)
  have HF := Lib.hid (fun (W : World) (hb : Below w.heap.size w W) => find_any (t := t) (h.below hb) hr hl ht)
  rw [hf] at HF
  have HC := Lib.hid h
  have hkl := (List.getElem?_eq_some_iff.1 hu).1
  have hkI : (k : Int) < (L.length : Int) := by omega
  have hlI : (L.length : Int) ≤ 1000000 := by omega
  have q1 : (u.at_ == t) = false := by simpa using hut
  clear h hf
  go_enter Tryd.func29, Tryd.ntmps29
  go_wp2_with fail
  refine (HF.out _ (below_new _)).mono ?_
  rintro e w1 ⟨i, ev, rfl, he, hi, hb⟩
  obtain rfl : ev = .nilIface := he.is
  replace hi := hi trivial
  rw [hk] at hi
  obtain rfl : i = (k : Int) := by rw [hi]; omega
  have hz := zero_cells hb
  have z0 := cell_of hz 0
  have z1 := cell_of hz 1
  have z2 := cell_of hz 2
  have z3 := cell_of hz 3
  have z4 := cell_of hz 4
  have f0 := free0 hz 0
  have f1 := free0 hz 1
  have f2 := free0 hz 2
  have f3 := free0 hz 3
  have f4 := free0 hz 4
  simp at z0 z1 z2 z3 z4
  have HB := Lib.hid ((below_new (w := w) _).trans (hb.mono (by rw [asz]; omega)))
  have hC := HC.out.below HB.out
  obtain ⟨g, cap, rfl, hc1, hc2, _, k0, k1, k2, k3, k4⟩ := hC.row.ver hu
  have kc : w1.cell? ⟨c, 0, none⟩ = some (.slice (some ⟨g, 0, none⟩) L.length cap) := cell_of hC.head 0
  rw [hop] at k4
  have hgl : g < w.heap.size := (HC.out.row.lt g rfl)
  have hg1 : (g = w.heap.size) = False := eq_false (by omega)
  have hg2 : (w.heap.size = g) = False := eq_false (by omega)
  have HGL := Lib.hid hgl
  have HU := Lib.hid hu
  have hcc := hC.row
  have fr : w1.frozen? ⟨g, k * 5 + 3, none⟩ = false := by
    rcases hcc with ⟨e, _⟩ | ⟨g', cap', e, _, hle, hc⟩
    · cases e
    · cases e
      exact (hc.there (k * 5 + 3) (by omega)).2
  have HCA := Lib.hid (hC.setV (i := k) (j := 3) (u' := { u with read := max u.read t }) (x := .int .i64 (max u.read t)) hu (by omega) rfl)
  have HTO := Lib.hid ((Touch.of_below (S := fun b => some g = some b) HB.out).setCell ⟨g, k * 5 + 3, none⟩ (fun _ => rfl) (.int .i64 (max u.read t)))
  have HZ := Lib.hid ((Below.heap_setCell w1 ⟨g, k * 5 + 3, none⟩ (.int .i64 (max u.read t)) w.heap.size (by show w.heap.size ≠ g; omega)).trans hz)
  clear hz hu hgl hcc
  clear he hb HF hi hC hc1 hc2 hut hr hl ht ho hk hkl
  go_wp2_with fail
  have hln : (L.set k { u with read := max u.read t }).length = L.length := List.length_set
  rw [hln] at HCA
  have HB2 := Lib.hid (put5_touch HTO.out (Nat.le_refl _) 0 (.int .i64 u.at_) (.int .i64 u.n) (.bool u.there) (.int .i64 (max u.read t)) (.bool false))
  have hcl := heap_lt HC.out.head
  have HC2 := Lib.hid (HCA.out.touch (put5_own (w1.setCell ⟨g, k * 5 + 3, none⟩ (.int .i64 (max u.read t))) w.heap.size 0 (.int .i64 u.at_) (.int .i64 u.n) (.bool u.there) (.int .i64 (max u.read t)) (.bool false)) (fun e => absurd e (Nat.ne_of_lt hcl)) (fun j hj e => absurd (show g = w.heap.size from (Option.some.inj hj).trans e) (Nat.ne_of_lt HGL.out)))
  have HZ2 := Lib.hid (put5_at HZ.out (.int .i64 u.at_) (.int .i64 u.n) (.bool u.there) (.int .i64 (max u.read t)) (.bool false))
  change bodyPost _ _ _ _ _ (put5 (w1.setCell ⟨g, k * 5 + 3, none⟩ (.int .i64 (max u.read t))) w.heap.size 0 (.int .i64 u.at_) (.int .i64 u.n) (.bool u.there) (.int .i64 (max u.read t)) (.bool false))
  generalize put5 (w1.setCell ⟨g, k * 5 + 3, none⟩ (.int .i64 (max u.read t))) w.heap.size 0 (.int .i64 u.at_) (.int .i64 u.n) (.bool u.there) (.int .i64 (max u.read t)) (.bool false) = W5 at *
  have hz := HZ2.out
  have j0 := cell_of hz 0
  have j1 := cell_of hz 1
  have j2 := cell_of hz 2
  have j3 := cell_of hz 3
  have j4 := cell_of hz 4
  simp at j0 j1 j2 j3 j4
  refine bodyPost_ret (v := .tuple #[aggV { u with read := max u.read t }, .nilIface]) (by simp [results, Tryd.results29, go_sem, j0, j1, j2, j3, j4, aggV, hop]) rfl ⟨rfl, HC2.out, HB2.out⟩
end Go.Proofs.YtmaokoekbjjgfaaDoor

namespace Go.Proofs.YtmaokoekbjjgfaaDoor
open Go.RowKit Go.Shelf

/-- The values of a version are integers of the machine. -/
def VerOk (u : Ver) : Prop := InR64 u.at_ ∧ InR64 u.n ∧ InR64 u.read
/-- A chain with which one goes on. -/
structure Ch (w : World) (c : Nat) (v : Value) (L : List Ver) : Prop extends ChAt w c v L where
  ris : Ris L
  few : L.length ≤ 1000000
  ok : ∀ u ∈ L, VerOk u
  glob : Glob w
  free : v.ownBlock ≠ some 0
theorem Ch.below {w w' : World} {c : Nat} {v : Value} {L : List Ver} (h : Ch w c v L) (hb : Below w.heap.size w w') : Ch w' c v L := ⟨h.toChAt.below hb, h.ris, h.few, h.ok, h.glob.below hb, h.free⟩
set_option maxRecDepth 100000 in
set_option maxHeartbeats 1000000 in
theorem code_nil (W : World) : Calls Tryd.prog 30 #[.nilIface] W fun e w' => e = .returned (.int .i64 0) ∧ w' = W := by
  go_enter Tryd.func30, Tryd.ntmps30
  go_wp2
  go_ret
  exact ⟨rfl, rfl⟩
/-- What read answers and leaves. -/
def ReadPost (w : World) (c : Nat) (v : Value) (L : List Ver) (t : Int) (e : Ending) (w' : World) : Prop :=
  ∃ x ev ks, e = .returned (.tuple #[aggV x, ev]) ∧ x.n = (readP L t).2.1 ∧ x.there = (readP L t).2.2.1 ∧ ErrIs w' ks ev ∧ NumOk ks ∧ ks.length < 1000 ∧ codeOf ks = (readP L t).2.2.2 ∧ ChAt w' c v (readP L t).1 ∧ Touch (fun b => v.ownBlock = some b) w w' ∧ (ks = [] ∨ Below w.heap.size w w')
theorem aggV_zero : zeroV = aggV ⟨0, 0, false, 0, false⟩ := rfl
theorem read_any {w : World} {c : Nat} {v : Value} {L : List Ver} {t : Int} (h : Ch w c v L) (ht : InR64 t) :
    Calls Tryd.prog 29 #[.pointer (some ⟨c, 0, none⟩), .int .i64 t] w (ReadPost w c v L t) := by
  by_cases ho : okT t = false
  · have hf : findE L t = [.bnd 1073741824 t, .num 2] := by unfold findE; rw [if_pos ho]
    have hr : readP L t = (L, 0, false, 2) := by unfold readP; rw [if_pos ho]
    refine (read_err h.toChAt h.ris h.few ht hf).mono ?_
    rintro e w' ⟨ev, rfl, he, hb⟩
    exact ⟨⟨0, 0, false, 0, false⟩, ev, _, rfl, by rw [hr], by rw [hr], he.is, (by intro e hm; simp at hm; omega), by simp, by rw [hr]; rfl, by rw [hr]; exact h.toChAt.below hb, .of_below hb, .inr hb⟩
  · have ho' : okT t = true := by simpa using ho
    by_cases hz : cnt L t = 0
    · have hf : findE L t = [.plc t, .num 22] := by unfold findE; rw [if_neg ho, if_pos hz]
      have hr : readP L t = (L, 0, false, 22) := by unfold readP; rw [if_neg ho, if_pos hz]
      refine (read_err h.toChAt h.ris h.few ht hf).mono ?_
      rintro e w' ⟨ev, rfl, he, hb⟩
      exact ⟨⟨0, 0, false, 0, false⟩, ev, _, rfl, by rw [hr], by rw [hr], he.is, (by intro e hm; simp at hm; omega), by simp, by rw [hr]; rfl, by rw [hr]; exact h.toChAt.below hb, .of_below hb, .inr hb⟩
    · obtain ⟨k, hk⟩ : ∃ k, cnt L t = k + 1 := ⟨cnt L t - 1, by omega⟩
      have hcl := cnt_le L t
      have hu : L[k]? = some (L[k]'(by omega)) := List.getElem?_eq_getElem _
      generalize L[k]'(by omega) = u at hu
      have hu1 : L[cnt L t - 1]? = some u := by rw [hk]; exact hu
      by_cases hut : u.at_ = t
      · have hr : readP L t = (L, u.n, u.there, 0) := by
          unfold readP
          rw [if_neg ho, if_neg hz, hu1]
          simp only
          rw [if_pos hut]
        refine (read_own h.toChAt h.ris h.few ht ho' hk hu hut).mono ?_
        rintro e w' ⟨rfl, hb⟩
        exact ⟨u, _, [], rfl, by rw [hr], by rw [hr], rfl, (fun e hm => by simp at hm), by simp, by rw [hr]; rfl, by rw [hr]; exact h.toChAt.below hb, .of_below hb, .inl rfl⟩
      · by_cases hop : u.opn = true
        · have hr : readP L t = (L, 0, false, 20) := by
            unfold readP
            rw [if_neg ho, if_neg hz, hu1]
            simp only
            rw [if_neg hut, if_pos hop]
          refine (read_busy h.toChAt h.ris h.few ht ho' hk hu hut hop).mono ?_
          rintro e w' ⟨ev, rfl, he, hb⟩
          exact ⟨⟨0, 0, false, 0, false⟩, ev, _, rfl, by rw [hr], by rw [hr], he.is, (by intro e hm; simp at hm; omega), by simp, by rw [hr]; rfl, by rw [hr]; exact h.toChAt.below hb, .of_below hb, .inr hb⟩
        · have hr : readP L t = (L.set k { u with read := max u.read t }, u.n, u.there, 0) := by
            unfold readP
            rw [if_neg ho, if_neg hz, hu1]
            simp only
            rw [if_neg hut, if_neg hop, hk]
            rfl
          refine (read_ok h.toChAt h.ris h.few ht ho' hk hu hut (by simpa using hop) (h.ok u (List.mem_of_getElem? hu)).2.2).mono ?_
          rintro e w' ⟨rfl, hc, hT⟩
          exact ⟨{ u with read := max u.read t }, _, [], rfl, by rw [hr], by rw [hr], rfl, (fun e hm => by simp at hm), by simp, by rw [hr]; rfl, by rw [hr]; exact hc, hT, .inl rfl⟩
theorem readP_ok {L : List Ver} {t : Int} (h : ∀ u ∈ L, VerOk u) (ht : InR64 t) : ∀ u ∈ (readP L t).1, VerOk u := by
  unfold readP
  split
  · exact h
  · split
    · exact h
    · split
      · exact h
      · next v hv =>
        split
        · exact h
        · split
          · exact h
          · intro u hu
            rcases List.mem_or_eq_of_mem_set hu with h1 | rfl
            · exact h u h1
            · obtain ⟨h1, h2, h3⟩ := h v (List.mem_of_getElem? hv)
              refine ⟨h1, h2, ?_⟩
              unfold InR64 at h3 ht ⊢
              show -9223372036854775808 ≤ max v.read t ∧ max v.read t ≤ 9223372036854775807
              omega
theorem Glob.touch {S : Nat → Prop} {w w' : World} (h : Glob w) (ht : Touch S w w') (hS : ¬ S 0) : Glob w' :=
  (World.cell?_of_block (a := ⟨0, 0, none⟩) (ht.block _ h.lt hS)).trans h
theorem below_of_drew {w w' : World} (h : Below w.drew.heap.size w.drew w') : Below w.heap.size w w' := (below_drew (Below.refl _ w)).trans h
set_option maxRecDepth 100000 in
set_option maxHeartbeats 4000000 in
theorem Read_any {w : World} {c : Nat} {v : Value} {L : List Ver} {t : Int} (h : Ch w c v L) (ht : InR64 t) :
    Calls Tryd.prog 14 #[.pointer (some ⟨c, 0, none⟩), .int .i64 t] w fun e w' => e = .returned (.tuple #[.int .i64 (readP L t).2.1, .bool (readP L t).2.2.1, .int .i64 (readP L t).2.2.2]) ∧ Ch w' c v (readP L t).1 ∧ Touch (fun b => v.ownBlock = some b) w w' := by
  have HR := Lib.hid (read_any h ht)
  have HC := Lib.hid h
  have hr := readP_ris (t := t) h.ris
  have HRI := Lib.hid hr
  have HOK := Lib.hid (readP_ok h.ok ht)
  clear h ht hr
  generalize hp : readP L t = p at HRI HOK
  obtain ⟨L', n', there', er⟩ := p
  unfold ReadPost at HR
  rw [hp] at HR
  go_enter Tryd.func14, Tryd.ntmps14
  go_wp2_with fail
  refine (HR.out).mono ?_
  rintro e w1 ⟨⟨xa, xn, xt, xr, xo⟩, ev, ks, rfl, h1, h2, he, hno, hlen, hco, hch, hT, hbl⟩
  obtain rfl : xn = n' := h1
  obtain rfl : xt = there' := h2
  unfold aggV
  dsimp only
  have hg1 : Glob w1 := HC.out.glob.touch hT HC.out.free
  have HCD : Hid (∀ W, Below w1.heap.size w1 W → Calls Tryd.prog 30 #[ev] W fun e w' => e = .returned (.int .i64 er) ∧ Below W.heap.size W w') := Lib.hid (fun W hW => by
    rw [← hco]
    exact code_any hg1 he hno hlen hW)
  have HCH : Hid (Ch w1 c v L') := Lib.hid ⟨hch, HRI.out.1, by rw [HRI.out.2]; exact HC.out.few, HOK.out, hg1, HC.out.free⟩
  have HT := Lib.hid hT
  clear he hno hlen hco hch hT hbl hg1 HR HRI HOK HC hp
  have hb2 : Below w1.heap.size w1 (w1.alloc (.cells #[.int .i64 xa, .int .i64 xn, .bool xt, .int .i64 xr, .bool xo] 47)) := below_new _
  have hz : (w1.alloc (.cells #[.int .i64 xa, .int .i64 xn, .bool xt, .int .i64 xr, .bool xo] 47)).heap[w1.heap.size]? = some (.cells #[.int .i64 xa, .int .i64 xn, .bool xt, .int .i64 xr, .bool xo] 47 (0, 0)) := alloc_at w1 _
  have z1 : (w1.alloc (.cells #[.int .i64 xa, .int .i64 xn, .bool xt, .int .i64 xr, .bool xo] 47)).drew.cell? ⟨w1.heap.size, 1, none⟩ = some (.int .i64 xn) := cell_of hz 1
  have z2 : (w1.alloc (.cells #[.int .i64 xa, .int .i64 xn, .bool xt, .int .i64 xr, .bool xo] 47)).drew.cell? ⟨w1.heap.size, 2, none⟩ = some (.bool xt) := cell_of hz 2
  have HS := Lib.hid (And.intro z1 z2)
  have HB2 := Lib.hid hb2
  have HSW : Hid (∀ W, Below (w1.alloc (.cells #[.int .i64 xa, .int .i64 xn, .bool xt, .int .i64 xr, .bool xo] 47)).heap.size (w1.alloc (.cells #[.int .i64 xa, .int .i64 xn, .bool xt, .int .i64 xr, .bool xo] 47)) W → W.cell? ⟨w1.heap.size, 1, none⟩ = some (.int .i64 xn) ∧ W.cell? ⟨w1.heap.size, 2, none⟩ = some (.bool xt)) := Lib.hid (fun W hW => ⟨(hW.cell (p := ⟨w1.heap.size, 1, none⟩) (by rw [asz]; show w1.heap.size < _; omega)).trans z1, (hW.cell (p := ⟨w1.heap.size, 2, none⟩) (by rw [asz]; show w1.heap.size < _; omega)).trans z2⟩)
  clear z1 z2 hz hb2
  go_wp2_with fail
  refine wp_only ?_
  refine wp_region_held_drew (S := fun W => W.cell? ⟨w1.heap.size, 1, none⟩ = some (.int .i64 xn) ∧ W.cell? ⟨w1.heap.size, 2, none⟩ = some (.bool xt)) (by kernel_rfl) HS.out (fun hHeld => ?_)
  refine wpAnyH_take (i := 0) (oi := { dst := some 17, op := Op.fieldAddr 47 (Operand.tmp 7) 1, type := 0, pos := "chain.go:40", after := #[], guard := none }) (v := ?vv1) rfl (by kernel_rfl) (by kernel_rfl) (by kernel_rfl) (fun _ _ _ h => h) ?hy1 (by assumption) ?rest1
  case hy1 => (refine Or.inl ⟨by rfl, ?_⟩; intro W hSw; (try dsimp only at hSw); go_simp; (try with_reducible rfl))
  try simp only [Act.put, List.setIfInBounds_toArray, List.set_cons_zero, List.set_cons_succ]
  refine wpAnyH_take (i := 1) (oi := { dst := some 18, op := Op.load 2 (Operand.tmp 17), type := 2, pos := "chain.go:40", after := #[{ on := 0, ground := Ground.data }], guard := none }) (v := ?vv2) rfl (by kernel_rfl) (by kernel_rfl) (by kernel_rfl) (fun _ _ _ h => h) ?hy2 (by assumption) ?rest2
  case hy2 => (refine Or.inl ⟨by rfl, ?_⟩; intro W hSw; (try dsimp only at hSw); go_simp; (try with_reducible rfl))
  try simp only [Act.put, List.setIfInBounds_toArray, List.set_cons_zero, List.set_cons_succ]
  refine wpAnyH_take (i := 2) (oi := { dst := some 19, op := Op.fieldAddr 47 (Operand.tmp 7) 2, type := 0, pos := "chain.go:40", after := #[{ on := 6, ground := Ground.gcOnly Departure.lateStores }], guard := none }) (v := ?vv3) rfl (by kernel_rfl) (by kernel_rfl) (by kernel_rfl) (fun _ _ _ h => h) ?hy3 (by assumption) ?rest3
  case hy3 => (refine Or.inl ⟨by rfl, ?_⟩; intro W hSw; (try dsimp only at hSw); go_simp; (try with_reducible rfl))
  try simp only [Act.put, List.setIfInBounds_toArray, List.set_cons_zero, List.set_cons_succ]
  refine wpAnyH_take (i := 3) (oi := { dst := some 20, op := Op.load 4 (Operand.tmp 19), type := 4, pos := "chain.go:40", after := #[{ on := 2, ground := Ground.data }, { on := 6, ground := Ground.gcOnly Departure.lateStores }], guard := none }) (v := ?vv4) rfl (by kernel_rfl) (by kernel_rfl) (by kernel_rfl) (fun _ _ _ h => h) ?hy4 (by assumption) ?rest4
  case hy4 => (refine Or.inl ⟨by rfl, ?_⟩; intro W hSw; (try dsimp only at hSw); go_simp; (try with_reducible rfl))
  try simp only [Act.put, List.setIfInBounds_toArray, List.set_cons_zero, List.set_cons_succ]
  refine wpAnyH_take (i := 4) (oi := { dst := some 21, op := Op.move (Operand.tmp 8), type := 65, pos := "chain.go:40", after := #[], guard := none }) (v := ?vv5) rfl (by kernel_rfl) (by kernel_rfl) (by kernel_rfl) (fun _ _ _ h => h) ?hy5 (by assumption) ?rest5
  case hy5 => (refine Or.inl ⟨by rfl, ?_⟩; intro W hSw; (try dsimp only at hSw); go_simp; (try with_reducible rfl))
  try simp only [Act.put, List.setIfInBounds_toArray, List.set_cons_zero, List.set_cons_succ]
  refine wpAnyH_ready (rs := [5]) (by kernel_rfl) (by simp) ?_
  refine AllReadyH.cons (o := { dst := some 22, op := Op.call { callee := Callee.value (Operand.func 30), args := #[Operand.tmp 21], argTypes := #[65] }, type := 36, pos := "chain.go:40", after := #[{ on := 4, ground := Ground.data }], guard := none }) rfl (fun K hK => ?step6) ?more6
  case more6 => exact AllReadyH.nil
  ((go_simp; go_at_call 30; refine (HCD.out _ (below_drew HB2.out)).mono ?_; rintro e w2 ⟨rfl, hb3⟩; go_wp2_with fail))
  refine hK.out _ _ ?hS6 (fun hHeld => ?rr6)
  case hS6 => (exact HSW.out _ (below_of_drew hb3))
  clear hK K
  try simp only [Act.put, List.setIfInBounds_toArray, List.set_cons_zero, List.set_cons_succ]
  refine wpAnyH_take (i := 6) (oi := { dst := some 4, op := Op.assign (Operand.tmp 18), type := 2, pos := "chain.go:40", after := #[{ on := 1, ground := Ground.data }, { on := 5, ground := Ground.chain }, { on := 0, ground := Ground.phase }, { on := 1, ground := Ground.phase }, { on := 2, ground := Ground.textOnly Departure.lateStores }, { on := 3, ground := Ground.textOnly Departure.lateStores }, { on := 4, ground := Ground.textOnly Departure.lateStores }, { on := 5, ground := Ground.textOnly Departure.lateStoresUnsure }], guard := none }) (v := ?vv7) rfl (by kernel_rfl) (by kernel_rfl) (by kernel_rfl) (fun _ _ _ h => h) ?hy7 (by assumption) ?rest7
  case hy7 => (refine Or.inl ⟨by rfl, ?_⟩; intro W hSw; (try dsimp only at hSw); go_simp; (try with_reducible rfl))
  try simp only [Act.put, List.setIfInBounds_toArray, List.set_cons_zero, List.set_cons_succ]
  refine wpAnyH_take (i := 7) (oi := { dst := some 5, op := Op.assign (Operand.tmp 20), type := 4, pos := "chain.go:40", after := #[{ on := 3, ground := Ground.data }, { on := 6, ground := Ground.chain }, { on := 0, ground := Ground.phase }, { on := 1, ground := Ground.phase }, { on := 2, ground := Ground.phase }, { on := 3, ground := Ground.phase }, { on := 4, ground := Ground.textOnly Departure.lateStores }, { on := 5, ground := Ground.textOnly Departure.lateStoresUnsure }, { on := 6, ground := Ground.phase }], guard := none }) (v := ?vv8) rfl (by kernel_rfl) (by kernel_rfl) (by kernel_rfl) (fun _ _ _ h => h) ?hy8 (by assumption) ?rest8
  case hy8 => (refine Or.inl ⟨by rfl, ?_⟩; intro W hSw; (try dsimp only at hSw); go_simp; (try with_reducible rfl))
  try simp only [Act.put, List.setIfInBounds_toArray, List.set_cons_zero, List.set_cons_succ]
  refine wpAnyH_take (i := 8) (oi := { dst := some 6, op := Op.assign (Operand.tmp 22), type := 36, pos := "chain.go:40", after := #[{ on := 5, ground := Ground.data }, { on := 7, ground := Ground.chain }, { on := 0, ground := Ground.phase }, { on := 1, ground := Ground.phase }, { on := 2, ground := Ground.phase }, { on := 3, ground := Ground.phase }, { on := 4, ground := Ground.phase }, { on := 5, ground := Ground.phase }, { on := 6, ground := Ground.phase }, { on := 7, ground := Ground.phase }], guard := none }) (v := ?vv9) rfl (by kernel_rfl) (by kernel_rfl) (by kernel_rfl) (fun _ _ _ h => h) ?hy9 (by assumption) ?rest9
  case hy9 => (refine Or.inl ⟨by rfl, ?_⟩; intro W hSw; (try dsimp only at hSw); go_simp; (try with_reducible rfl))
  try simp only [Act.put, List.setIfInBounds_toArray, List.set_cons_zero, List.set_cons_succ]
  refine wpAnyH_done (by kernel_rfl) ?_ _
  have hb4 : Below w1.heap.size w1 w2 := HB2.out.trans ((below_of_drew hb3).mono HB2.out.size)
  have HC4 := Lib.hid (HCH.out.below hb4)
  have HT4 := Lib.hid (HT.out.after hb4)
  clear hHeld HS HSW HCD HB2 hb3 hb4 HCH HT
  dsimp only [onlyN]
  go_wp2_with fail
  refine bodyPost_ret (v := .tuple #[.int .i64 xn, .bool xt, .int .i64 er]) (by simp [results, Tryd.results14, go_sem]) rfl ⟨rfl, HC4.out, HT4.out⟩
end Go.Proofs.YtmaokoekbjjgfaaDoor
