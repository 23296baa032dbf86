/- read, of what is there. -/
import Derived.Test.YtmaokoekbjjgfaaDoorZChaC
set_option linter.unusedSimpArgs false
set_option linter.unusedVariables false
set_option linter.unnecessarySimpa false
namespace Go.Proofs.YtmaokoekbjjgfaaDoor
open Go.RowKit Go.Shelf

theorem findE_nil {L : List Ver} {t : Int} (ho : okT t = true) (hz : cnt L t ≠ 0) : findE L t = [] := by
  unfold findE
  rw [if_neg (by simp [ho]), if_neg hz]
def aggV (u : Ver) : Value := .agg #[.int .i64 u.at_, .int .i64 u.n, .bool u.there, .int .i64 u.read, .bool u.opn]
set_option maxRecDepth 100000 in
set_option maxHeartbeats 4000000 in
theorem read_own {w : World} {c : Nat} {v : Value} {L : List Ver} {t : Int} {k : Nat} {u : Ver} (h : ChAt w c v L) (hr : Ris L) (hl : L.length ≤ 1000000) (ht : InR64 t) (ho : okT t = true) (hk : cnt L t = k + 1) (hu : L[k]? = some u) (hut : u.at_ = t) :
    Calls Tryd.prog 29 #[.pointer (some ⟨c, 0, none⟩), .int .i64 t] w fun e w' => e = .returned (.tuple #[aggV u, .nilIface]) ∧ Below w.heap.size w w' := by
  have hf := findE_nil ho (L := L) (by omega)
  have HF := Lib.hid (fun (W : World) (hb : Below w.heap.size w W) => find_any (t := t) (h.below hb) hr hl ht)
  rw [hf] at HF
  have HC := Lib.hid h
  have hkl := (List.getElem?_eq_some_iff.1 hu).1
  have hkI : (k : Int) < (L.length : Int) := by omega
  have hlI : (L.length : Int) ≤ 1000000 := by omega
  have q1 : (u.at_ == t) = true := by simpa using hut
  clear h hf
  go_enter Tryd.func29, Tryd.ntmps29
  go_wp2_with fail
  refine (HF.out _ (below_new _)).mono ?_
  rintro e w1 ⟨i, ev, rfl, he, hi, hb⟩
  obtain rfl : ev = .nilIface := he.is
  replace hi := hi trivial
  rw [hk] at hi
  obtain rfl : i = (k : Int) := by rw [hi]; omega
  have hz := zero_cells hb
  have z0 := cell_of hz 0
  have z1 := cell_of hz 1
  have z2 := cell_of hz 2
  have z3 := cell_of hz 3
  have z4 := cell_of hz 4
  have f0 := free0 hz 0
  have f1 := free0 hz 1
  have f2 := free0 hz 2
  have f3 := free0 hz 3
  have f4 := free0 hz 4
  simp at z0 z1 z2 z3 z4
  have HB := Lib.hid ((below_new (w := w) _).trans (hb.mono (by rw [asz]; omega)))
  have hC := HC.out.below HB.out
  obtain ⟨g, cap, rfl, hc1, hc2, _, k0, k1, k2, k3, k4⟩ := hC.row.ver hu
  have kc : w1.cell? ⟨c, 0, none⟩ = some (.slice (some ⟨g, 0, none⟩) L.length cap) := cell_of hC.head 0
  have HZ := Lib.hid (put5_at hz (.int .i64 u.at_) (.int .i64 u.n) (.bool u.there) (.int .i64 u.read) (.bool u.opn))
  clear he hb hz HF hi hC hc1 hc2 hut hu hr hl ht ho hk hkl
  go_wp2_with fail
  have HB2 := Lib.hid (put5_below HB.out (Nat.le_refl _) 0 (.int .i64 u.at_) (.int .i64 u.n) (.bool u.there) (.int .i64 u.read) (.bool u.opn))
  change bodyPost _ _ _ _ _ (put5 w1 w.heap.size 0 (.int .i64 u.at_) (.int .i64 u.n) (.bool u.there) (.int .i64 u.read) (.bool u.opn))
  generalize put5 w1 w.heap.size 0 (.int .i64 u.at_) (.int .i64 u.n) (.bool u.there) (.int .i64 u.read) (.bool u.opn) = W5 at *
  have hz := HZ.out
  have j0 := cell_of hz 0
  have j1 := cell_of hz 1
  have j2 := cell_of hz 2
  have j3 := cell_of hz 3
  have j4 := cell_of hz 4
  simp at j0 j1 j2 j3 j4
  refine bodyPost_ret (v := .tuple #[aggV u, .nilIface]) (by simp [results, Tryd.results29, go_sem, j0, j1, j2, j3, j4, aggV]) rfl ⟨rfl, HB2.out⟩
set_option maxRecDepth 100000 in
set_option maxHeartbeats 4000000 in
theorem read_busy {w : World} {c : Nat} {v : Value} {L : List Ver} {t : Int} {k : Nat} {u : Ver} (h : ChAt w c v L) (hr : Ris L) (hl : L.length ≤ 1000000) (ht : InR64 t) (ho : okT t = true) (hk : cnt L t = k + 1) (hu : L[k]? = some u) (hut : u.at_ ≠ t) (hop : u.opn = true) :
    Calls Tryd.prog 29 #[.pointer (some ⟨c, 0, none⟩), .int .i64 t] w fun e w' => ∃ ev, e = .returned (.tuple #[zeroV, ev]) ∧ ErrNew w.heap.size w' [.plc u.at_, .num 20] ev ∧ Below w.heap.size w w' := by
  have hf := findE_nil ho (L := L) (by omega)
  have HF := Lib.hid (fun (W : World) (hb : Below w.heap.size w W) => find_any (t := t) (h.below hb) hr hl ht)
  rw [hf] at HF
  have HC := Lib.hid h
  have hkl := (List.getElem?_eq_some_iff.1 hu).1
  have hkI : (k : Int) < (L.length : Int) := by omega
  have hlI : (L.length : Int) ≤ 1000000 := by omega
  have q1 : (u.at_ == t) = false := by simpa using hut
  clear h hf
  go_enter Tryd.func29, Tryd.ntmps29
  go_wp2_with fail
  refine (HF.out _ (below_new _)).mono ?_
  rintro e w1 ⟨i, ev, rfl, he, hi, hb⟩
  obtain rfl : ev = .nilIface := he.is
  replace hi := hi trivial
  rw [hk] at hi
  obtain rfl : i = (k : Int) := by rw [hi]; omega
  have hz := zero_cells hb
  have HZ1 := Lib.hid hz
  have HB := Lib.hid ((below_new (w := w) _).trans (hb.mono (by rw [asz]; omega)))
  have HS := Lib.hid hb.size
  have hC := HC.out.below HB.out
  obtain ⟨g, cap, rfl, hc1, hc2, _, k0, k1, k2, k3, k4⟩ := hC.row.ver hu
  rw [hop] at k4
  have kc : w1.cell? ⟨c, 0, none⟩ = some (.slice (some ⟨g, 0, none⟩) L.length cap) := cell_of hC.head 0
  have HN := Lib.hid (fun W => new_num 20 (by decide) W)
  have HAT := Lib.hid (fun W => at_some u.at_ 85 (.agg #[.int .i64 20]) W)
  have hgl : g < w.heap.size := (HC.out.row.lt g rfl)
  have HG := Lib.hid hgl
  have hk0 : w1.drew.cell? ⟨g, k * 5, none⟩ = some (.int .i64 u.at_) := k0
  have HK0 := Lib.hid hk0
  have hW : ∃ W3, W3 = (w1.alloc (.cells #[.iface 85 (.agg #[.int .i64 20]), .int .i64 u.at_] 96)).drew := ⟨_, rfl⟩
  obtain ⟨W3, hW3⟩ := hW
  have hb3 : Below w1.heap.size w1 W3 := by rw [hW3]; exact below_drew (below_new _)
  have he3 : W3.heap[w1.heap.size]? = some (.cells #[.iface 85 (.agg #[.int .i64 20]), .int .i64 u.at_] 96 (0, 0)) := by rw [hW3]; exact alloc_at w1 _
  have z : W3.heap[w.heap.size]? = some (.cells #[.int .i64 0, .int .i64 0, .bool false, .int .i64 0, .bool false] 47 (0, 0)) := (hb3.block w.heap.size (heap_lt hz)).trans hz
  have z0 : W3.cell? ⟨w.heap.size, 0, none⟩ = some (.int .i64 0) := cell_of z 0
  have z1 : W3.cell? ⟨w.heap.size, 1, none⟩ = some (.int .i64 0) := cell_of z 1
  have z2 : W3.cell? ⟨w.heap.size, 2, none⟩ = some (.bool false) := cell_of z 2
  have z3 : W3.cell? ⟨w.heap.size, 3, none⟩ = some (.int .i64 0) := cell_of z 3
  have z4 : W3.cell? ⟨w.heap.size, 4, none⟩ = some (.bool false) := cell_of z 4
  have f0 := free0 z 0
  have f1 := free0 z 1
  have f2 := free0 z 2
  have f3 := free0 z 3
  have f4 := free0 z 4
  have hk3 : W3.cell? ⟨g, k * 5, none⟩ = some (.int .i64 u.at_) := (hb3.cell (p := ⟨g, k * 5, none⟩) (Nat.lt_of_lt_of_le hgl HB.out.size)).trans k0
  have HK3 := Lib.hid hk3
  have HKW := Lib.hid ((World.cell?_of_block (a := ⟨g, k * 5, none⟩) (put5_block (W := W3) (b := w.heap.size) (o := 0) (k := g) (by omega) (.int .i64 0) (.int .i64 0) (.bool false) (.int .i64 0) (.bool false))).trans hk3)
  have HZ := Lib.hid (put5_at z (.int .i64 0) (.int .i64 0) (.bool false) (.int .i64 0) (.bool false))
  have HB3 := Lib.hid (put5_below (HB.out.trans (hb3.mono HB.out.size)) (Nat.le_refl _) 0 (.int .i64 0) (.int .i64 0) (.bool false) (.int .i64 0) (.bool false))
  have HE3 := Lib.hid ((errNew_plc (B := w.heap.size + 1) (by have := heap_lt hz; omega) he3).put5 (b := w.heap.size) (o := 0) (by omega) (.int .i64 0) (.int .i64 0) (.bool false) (.int .i64 0) (.bool false))
  have HW3 := Lib.hid hW3
  clear he hb hz HF hi hC hc1 hc2 hut hu hr hl ht ho hk hkl z hgl hW3 hk3 hb3 he3
  go_wp2_with fail
  refine wp_only ?_
  refine wp_region_held_drew (S := fun W => W.cell? ⟨g, k * 5, none⟩ = some (.int .i64 u.at_)) (by kernel_rfl) HK0.out (fun hHeld => ?_)
  clear hk0
  refine wpAnyH_take (i := 0) (oi := { dst := some 38, op := Op.build 47 #[], type := 47, pos := "chain.go:133", after := #[], guard := none }) (v := ?vv1) rfl (by kernel_rfl) (by kernel_rfl) (by kernel_rfl) (fun _ _ _ h => h) ?hy1 (by assumption) ?rest1
  case hy1 => (refine Or.inl ⟨by rfl, ?_⟩; intro W hSw; (try dsimp only at hSw); go_simp; (try with_reducible rfl))
  try simp only [Act.put, List.setIfInBounds_toArray, List.set_cons_zero, List.set_cons_succ]
  refine wpAnyH_take (i := 1) (oi := { dst := some 39, op := Op.move (Operand.tmp 8), type := 81, pos := "chain.go:133", after := #[], guard := none }) (v := ?vv2) rfl (by kernel_rfl) (by kernel_rfl) (by kernel_rfl) (fun _ _ _ h => h) ?hy2 (by assumption) ?rest2
  case hy2 => (refine Or.inl ⟨by rfl, ?_⟩; intro W hSw; (try dsimp only at hSw); go_simp; (try with_reducible rfl))
  try simp only [Act.put, List.setIfInBounds_toArray, List.set_cons_zero, List.set_cons_succ]
  refine wpAnyH_take (i := 2) (oi := { dst := some 40, op := Op.nilCheck (Operand.tmp 39), type := 0, pos := "chain.go:133", after := #[{ on := 1, ground := Ground.data }], guard := none }) (v := ?vv3) rfl (by kernel_rfl) (by kernel_rfl) (by kernel_rfl) (fun _ _ _ h => h) ?hy3 (by assumption) ?rest3
  case hy3 => (refine Or.inl ⟨by rfl, ?_⟩; intro W hSw; (try dsimp only at hSw); go_simp; (try with_reducible rfl))
  try simp only [Act.put, List.setIfInBounds_toArray, List.set_cons_zero, List.set_cons_succ]
  refine wpAnyH_take (i := 3) (oi := { dst := some 41, op := Op.fieldAddr 47 (Operand.tmp 40) 0, type := 0, pos := "chain.go:133", after := #[{ on := 2, ground := Ground.data }], guard := none }) (v := ?vv4) rfl (by kernel_rfl) (by kernel_rfl) (by kernel_rfl) (fun _ _ _ h => h) ?hy4 (by assumption) ?rest4
  case hy4 => (refine Or.inl ⟨by rfl, ?_⟩; intro W hSw; (try dsimp only at hSw); go_simp; (try with_reducible rfl))
  try simp only [Act.put, List.setIfInBounds_toArray, List.set_cons_zero, List.set_cons_succ]
  refine wpAnyH_take (i := 4) (oi := { dst := some 42, op := Op.load 3 (Operand.tmp 41), type := 3, pos := "chain.go:133", after := #[{ on := 3, ground := Ground.data }], guard := none }) (v := ?vv5) rfl (by kernel_rfl) (by kernel_rfl) (by kernel_rfl) (fun _ _ _ h => h) ?hy5 (by assumption) ?rest5
  case hy5 => (refine Or.inl ⟨by rfl, ?_⟩; intro W hSw; (try dsimp only at hSw); go_simp; (try with_reducible rfl))
  try simp only [Act.put, List.setIfInBounds_toArray, List.set_cons_zero, List.set_cons_succ]
  refine wpAnyH_ready (rs := [5]) (by kernel_rfl) (by simp) ?_
  refine AllReadyH.cons (o := { dst := some 43, op := Op.call { callee := Callee.value (Operand.func 41), args := #[Operand.const (Value.int IntKind.i64 20)], argTypes := #[36] }, type := 65, pos := "chain.go:133", after := #[], guard := none }) rfl (fun K hK => ?step6) ?more6
  case more6 => exact AllReadyH.nil
  ((go_simp; go_at_call 41; refine (HN.out _).mono ?_; rintro e w2 ⟨rfl, rfl⟩; go_wp2_with fail))
  refine hK.out _ _ ?hS6 (fun hHeld => ?rr6)
  case hS6 => (exact HK0.out)
  clear hK K
  try simp only [Act.put, List.setIfInBounds_toArray, List.set_cons_zero, List.set_cons_succ]
  refine wpAnyH_ready (rs := [6]) (by kernel_rfl) (by simp) ?_
  refine AllReadyH.cons (o := { dst := some 44, op := Op.call { callee := Callee.value (Operand.func 40), args := #[Operand.tmp 42, Operand.tmp 43], argTypes := #[3, 65] }, type := 65, pos := "chain.go:133", after := #[{ on := 4, ground := Ground.data }, { on := 5, ground := Ground.data }, { on := 5, ground := Ground.chain }], guard := none }) rfl (fun K hK => ?step7) ?more7
  case more7 => exact AllReadyH.nil
  ((go_simp; go_at_call 40; refine (HAT.out _).mono ?_; rintro e w3 ⟨rfl, rfl⟩; go_wp2_with fail))
  refine hK.out _ _ ?hS7 (fun hHeld => ?rr7)
  case hS7 => (exact HW3.out ▸ HK3.out)
  clear hK K
  try simp only [Act.put, List.setIfInBounds_toArray, List.set_cons_zero, List.set_cons_succ]
  rw [← HW3.out]
  refine wpAnyH_ready (rs := [7]) (by kernel_rfl) (by simp) ?_
  refine AllReadyH.cons (o := { dst := none, op := Op.store 47 (Operand.tmp 4) (Operand.tmp 38), type := 0, pos := "chain.go:133", after := #[{ on := 0, ground := Ground.data }, { on := 6, ground := Ground.chain }, { on := 0, ground := Ground.phase }, { on := 1, ground := Ground.textOnly Departure.lateStores }, { on := 2, ground := Ground.textOnly Departure.lateStores }, { on := 3, ground := Ground.textOnly Departure.lateStores }, { on := 4, ground := Ground.textOnly Departure.lateStores }, { on := 5, ground := Ground.textOnly Departure.lateStoresUnsure }, { on := 6, ground := Ground.textOnly Departure.lateStoresUnsure }], guard := none }) rfl (fun K hK => ?step8) ?more8
  case more8 => exact AllReadyH.nil
  ((go_simp; go_wp2_with fail))
  refine hK.out _ _ ?hS8 (fun hHeld => ?rr8)
  case hS8 => (exact HKW.out)
  clear hK K
  try simp only [Act.put, List.setIfInBounds_toArray, List.set_cons_zero, List.set_cons_succ]
  change wpAnyH _ _ _ _ _ _ _ _ (put5 W3 w.heap.size 0 (.int .i64 0) (.int .i64 0) (.bool false) (.int .i64 0) (.bool false))
  generalize put5 W3 w.heap.size 0 (.int .i64 0) (.int .i64 0) (.bool false) (.int .i64 0) (.bool false) = W5 at *
  refine wpAnyH_take (i := 8) (oi := { dst := some 5, op := Op.assign (Operand.tmp 44), type := 65, pos := "chain.go:133", after := #[{ on := 6, ground := Ground.data }, { on := 7, ground := Ground.chain }, { on := 0, ground := Ground.phase }, { on := 1, ground := Ground.phase }, { on := 2, ground := Ground.phase }, { on := 3, ground := Ground.phase }, { on := 4, ground := Ground.phase }, { on := 5, ground := Ground.phase }, { on := 6, ground := Ground.phase }, { on := 7, ground := Ground.phase }], guard := none }) (v := ?vv9) rfl (by kernel_rfl) (by kernel_rfl) (by kernel_rfl) (fun _ _ _ h => h) ?hy9 (by assumption) ?rest9
  case hy9 => (refine Or.inl ⟨by rfl, ?_⟩; intro W hSw; (try dsimp only at hSw); go_simp; (try with_reducible rfl))
  try simp only [Act.put, List.setIfInBounds_toArray, List.set_cons_zero, List.set_cons_succ]
  refine wpAnyH_done (by kernel_rfl) ?_ _
  clear hHeld HK0 HKW HK3
  dsimp only [onlyN]
  go_wp2_with fail
  have hz := HZ.out
  have j0 := cell_of hz 0
  have j1 := cell_of hz 1
  have j2 := cell_of hz 2
  have j3 := cell_of hz 3
  have j4 := cell_of hz 4
  simp at j0 j1 j2 j3 j4
  refine bodyPost_ret (v := .tuple #[zeroV, .iface 92 (.pointer (some ⟨w1.heap.size, 0, none⟩))]) (by simp [results, Tryd.results29, go_sem, j0, j1, j2, j3, j4, zeroV]) rfl ⟨_, rfl, HE3.out.mono (by omega), HB3.out⟩
end Go.Proofs.YtmaokoekbjjgfaaDoor
