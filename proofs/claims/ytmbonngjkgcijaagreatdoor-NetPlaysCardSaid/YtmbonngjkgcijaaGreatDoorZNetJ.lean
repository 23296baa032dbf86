/- The net: Deliver. -/
import Derived.Test.YtmbonngjkgcijaaGreatDoorZNetH
import Derived.Test.YtmbonngjkgcijaaGreatDoorZDecO
set_option linter.unusedSimpArgs false
set_option linter.unusedVariables false
set_option linter.unnecessarySimpa false
namespace Go.Proofs.YtmbonngjkgcijaaGreatDoor
open Go.RowKit Go.Shelf
section
variable {w : World} {b : Nat} {most : Int} {v : Value} {L : List Pk} {mp : Nat} {C : List MapEntry} {c : Nat} {ro : Nat → Nat}
theorem busyCode {W : World} (hG : Glob W) (i : Int) : Calls Tryz.prog 48 #[.iface 190 (.pointer (some ⟨W.heap.size, 0, none⟩))] (W.alloc (.cells #[.iface 159 (.agg #[.int .i64 20]), .int .i64 i] 194)) fun e w' => e = .returned (.int .i64 20) ∧ Below (W.alloc (.cells #[.iface 159 (.agg #[.int .i64 20]), .int .i64 i] 194)).heap.size (W.alloc (.cells #[.iface 159 (.agg #[.int .i64 20]), .int .i64 i] 194)) w' :=
  code_any (c := [.plc i, .num 20]) (hG.below (below_new _)) ⟨by simp, _, _, rfl, alloc_at _ _, rfl, rfl⟩ (numOk_cons (by simp) (numOk_one (by decide))) (by simp) (Below.refl _ _)
theorem at_busy {W : World} (hG : Glob W) (i : Int) : Calls Tryz.prog 67 #[.int .i64 i, .iface 159 (.agg #[.int .i64 20])] W fun e w' => ∃ t u, e = .returned (.iface t u) ∧ (Calls Tryz.prog 48 #[.iface t u] w' fun e w2 => e = .returned (.int .i64 20) ∧ Below w'.heap.size w' w2) ∧ Below W.heap.size W w' := by
  refine (at_some i 159 (.agg #[.int .i64 20]) W).mono ?_
  rintro e w' ⟨rfl, rfl⟩
  exact ⟨_, _, rfl, busyCode hG i, below_new _⟩
set_option maxRecDepth 100000 in
set_option maxHeartbeats 1000000 in
theorem nDeliver_busy (hG : Glob w) (h : NetAt w b most v L mp C c ro) {i : Nat} {x : Pk} (hi : L[i]? = some x) (hw : 0 < x.waits) : Calls Tryz.prog 22 #[.pointer (some ⟨b, 0, none⟩), .int .i64 i] w fun e w' => e = .returned (.tuple #[zeroM, .int .i64 20]) ∧ Below w.heap.size w w' := by
  have HF := Lib.hid (fun W (hW : Below w.heap.size w W) => nfind_ok (h.below hW) hi)
  have HE := Lib.hid (fun W => new_num 20 (by decide) W)
  have HAS := Lib.hid (fun W (hW : Below w.heap.size w W) => at_busy (hG.below hW) (i : Int))
  have HG := Lib.hid hG
  have hb0 := below_new (w := w) (.cells zeroC 50)
  have HB0 := Lib.hid hb0
  have HAT : Hid (∀ W, Below (w.alloc (.cells zeroC 50)).heap.size (w.alloc (.cells zeroC 50)) W → W.heap[w.heap.size]? = some (.cells zeroC 50 (0, 0))) := Lib.hid (fun W hW => (hW.block _ (by rw [asz]; exact Nat.lt_succ_self _)).trans (alloc_at _ _))
  have hpk := (h.below hb0).pk x (List.mem_of_getElem? hi)
  unfold Pk.cells at hpk
  have hc := cell_of hpk 2
  unfold Pk.ptr at HF
  simp at hc
  have hq : decide (0 < x.waits) = true := decide_eq_true hw
  clear h hi hG hb0 hpk hw
  go_enter Tryz.func22, Tryz.ntmps22
  go_wp2_with fail
  refine (HF.out _ HB0.out).mono ?_
  rintro e w1 ⟨rfl, rfl⟩
  go_wp2_with fail
  refine (HE.out _).mono ?_
  rintro e w2 ⟨rfl, rfl⟩
  go_wp2_with fail
  refine (HAS.out _ HB0.out).mono ?_
  rintro e w3 ⟨t, u, rfl, hcd, hb3⟩
  have hb3' : Below w.heap.size w w3 := HB0.out.trans (hb3.mono HB0.out.size)
  have HC := Lib.hid hcd
  have HB3 := Lib.hid (And.intro hb3 hb3')
  clear hb3 hb3' hc hq hcd
  go_wp2_with fail
  refine (HC.out).mono ?_
  rintro e w4 ⟨rfl, hb4⟩
  have hat2 := HAT.out _ (HB3.out.1.trans (hb4.mono HB3.out.1.size))
  have HB4 := Lib.hid (HB3.out.2.trans (hb4.mono HB3.out.2.size))
  clear hb4
  have HZ5 := Lib.hid (setCells_at w.heap.size (zeroC).toList [] zeroC.toList w4 rfl hat2)
  have HT5 := Lib.hid (setCells_touch (S := fun k => k = w.heap.size) (a := w4) w.heap.size (fun _ => rfl) (zeroC).toList 0 w4 (Touch.refl _ _))
  have r0 := cell_of hat2 0; have r1 := cell_of hat2 1; have r2 := cell_of hat2 2; have r3 := cell_of hat2 3; have r4 := cell_of hat2 4; have r5 := cell_of hat2 5; have r6 := cell_of hat2 6; have r7 := cell_of hat2 7; have r8 := cell_of hat2 8; have r9 := cell_of hat2 9; have r10 := cell_of hat2 10
  simp at r0 r1 r2 r3 r4 r5 r6 r7 r8 r9 r10
  have f0 := free0 hat2 0; have f1 := free0 hat2 1; have f2 := free0 hat2 2; have f3 := free0 hat2 3; have f4 := free0 hat2 4; have f5 := free0 hat2 5; have f6 := free0 hat2 6; have f7 := free0 hat2 7; have f8 := free0 hat2 8; have f9 := free0 hat2 9; have f10 := free0 hat2 10
  clear hat2
  go_wp2_with fail
  change bodyPost _ _ _ _ _ (World.setCells _ w.heap.size 0 (zeroC).toList)
  simp only [List.length_nil, List.nil_append] at HZ5
  generalize World.setCells _ w.heap.size 0 (zeroC).toList = W5 at *
  clear r0 r1 r2 r3 r4 r5 r6 r7 r8 r9 r10 f0 f1 f2 f3 f4 f5 f6 f7 f8 f9 f10
  have j0 := cell_of HZ5.out 0; have j1 := cell_of HZ5.out 1; have j2 := cell_of HZ5.out 2; have j3 := cell_of HZ5.out 3; have j4 := cell_of HZ5.out 4; have j5 := cell_of HZ5.out 5; have j6 := cell_of HZ5.out 6; have j7 := cell_of HZ5.out 7; have j8 := cell_of HZ5.out 8; have j9 := cell_of HZ5.out 9; have j10 := cell_of HZ5.out 10
  simp at j0 j1 j2 j3 j4 j5 j6 j7 j8 j9 j10
  refine bodyPost_ret (v := .tuple #[zeroM, .int .i64 20]) (by simp [results, Tryz.results22, go_sem, j0, j1, j2, j3, j4, j5, j6, j7, j8, j9, j10]) rfl ?_
  exact ⟨rfl, HB4.out.trans (HT5.out.below (fun i e => by omega) HB4.out.size)⟩
/-- What a delivery leaves and answers. -/
def DelP (w : World) (b : Nat) (most : Int) (mp : Nat) (C : List MapEntry) (c : Nat) (ro : Nat → Nat) (P : List P3) (bs : List UInt8) (e : Ending) (w' : World) : Prop :=
  NetP w b most mp C c ro P w' ∧ ((decM bs = none ∧ e = .returned (.tuple #[zeroM, .int .i64 6])) ∨ ∃ m v, decM bs = some m ∧ e = .returned (.tuple #[v, .int .i64 0]) ∧ MsgIs w' v m)
set_option maxRecDepth 100000 in
set_option maxHeartbeats 4000000 in
theorem nDeliver_ok (hG : Glob w) (hMv : Mov w) (h0 : ro 1 = 0 ∧ ro 0 = 0) (h : NetAt w b most v L mp C c ro) {i : Nat} {x : Pk} (hi : L[i]? = some x) (hw : x.waits = 0) (hsr : -9223372036854775808 ≤ x.site ∧ x.site ≤ 9223372036854775807) (hno : ∀ e ∈ C, e.key ≠ .int .i64 x.site) :
    Calls Tryz.prog 22 #[.pointer (some ⟨b, 0, none⟩), .int .i64 i] w (DelP w b most mp C c ro ((L.map Pk.p).eraseIdx i) x.bs) := by
  have hx := List.mem_of_getElem? hi
  have HF := Lib.hid (fun W (hW : Below w.heap.size w W) => nfind_ok (h.below hW) hi)
  have HPA := Lib.hid (fun W (hW : Below w.heap.size w W) => nparted_no (h.below hW) hsr hno)
  have HTK := Lib.hid (fun W (hW : Below w.heap.size w W) => ntake_any (h.below hW) (List.getElem?_eq_some_iff.1 hi).1)
  have HG := Lib.hid (And.intro hG (And.intro hMv h0))
  have hb0 := below_new (w := w) (.cells zeroC 50)
  have HB0 := Lib.hid hb0
  have HH := Lib.hid (And.intro h (And.intro hx (h.rp x hx)))
  have HR0 : Hid (ro w.heap.size = 0) := Lib.hid (by
    by_cases e : ro w.heap.size = 0
    · exact e
    · have := h.lt _ e; omega)
  have HAT : Hid (∀ W, Below (w.alloc (.cells zeroC 50)).heap.size (w.alloc (.cells zeroC 50)) W → W.heap[w.heap.size]? = some (.cells zeroC 50 (0, 0))) := Lib.hid (fun W hW => (hW.block _ (by rw [asz]; exact Nat.lt_succ_self _)).trans (alloc_at _ _))
  have hpk := (h.below hb0).pk x hx
  unfold Pk.cells at hpk
  have hc1 := cell_of hpk 1
  have hc2 := cell_of hpk 2
  rw [hw] at hc2
  unfold Pk.ptr at HF
  simp at hc1 hc2
  clear h hi hG hMv h0 hb0 hpk hw hsr hno hx
  go_enter Tryz.func22, Tryz.ntmps22
  go_wp2_with fail
  refine (HF.out _ HB0.out).mono ?_
  rintro e w1 ⟨rfl, rfl⟩
  go_wp2_with fail
  refine (HPA.out _ HB0.out).mono ?_
  rintro e w2 ⟨rfl, hb2⟩
  have HB2 := Lib.hid (HB0.out.trans (hb2.mono HB0.out.size))
  have HA2 := Lib.hid hb2
  clear hb2 hc1 hc2
  go_wp2_with fail
  refine (HTK.out _ HB2.out).mono ?_
  rintro e w3 ⟨v3, rfl, hn3, ht3⟩
  have hst3 : Step w w3 ro ro := Step.ahead HB2.out (Step.same ht3 (fun k e => by omega))
  have hpk3 : w3.heap[x.pb]? = some (.cells x.cells 125 (0, 0)) := (ht3.block _ (heap_lt ((HH.out.1.below HB2.out).pk x HH.out.2.1)) (fun q => by have := HH.out.2.2; omega)).trans ((HH.out.1.below HB2.out).pk x HH.out.2.1)
  have hby3 : OwnBy w3 0 x.v x.bs := .inr ⟨x.g, x.cap, rfl, ((HH.out.1.below HB2.out).by_ x HH.out.2.1).keep ht3.size (ht3.block _ ((HH.out.1.below HB2.out).by_ x HH.out.2.1).lt (fun q => by have := HH.out.2.2; omega))⟩
  have HDE := Lib.hid (Decode_own (HG.out.1.step HG.out.2.2.1 hst3) (HG.out.2.1.step HG.out.2.2.2 hst3) hby3.bis)
  have hat3 : w3.heap[w.heap.size]? = some (.cells zeroC 50 (0, 0)) := (ht3.block _ (heap_lt (HAT.out _ HA2.out)) (fun q => by have := HR0.out; omega)).trans (HAT.out _ HA2.out)
  have HN3 := Lib.hid (And.intro hn3 (And.intro hst3 hat3))
  unfold Pk.cells at hpk3
  have hc := cell_of hpk3 0
  unfold Pk.v at hc HDE
  simp at hc
  clear hn3 ht3 hst3 hpk3 hby3 hat3
  go_wp2_with fail
  refine (HDE.out).mono ?_
  rintro e w4 ⟨hb4, hcs⟩
  have hat2 := (hb4.block _ (heap_lt HN3.out.2.2)).trans HN3.out.2.2
  have HN4 := Lib.hid (And.intro (HN3.out.1.below hb4) (HN3.out.2.1.after hb4))
  have HS3 := Lib.hid (heap_lt HN3.out.2.2)
  have HFIN : Hid (∀ W5, Touch (fun k => k = w.heap.size) w4 W5 → NetP w b most mp C c ro ((L.map Pk.p).eraseIdx i) W5) := Lib.hid (fun W5 hT => ⟨v3, ro, _, HN4.out.1.keep hT (fun k e => by rw [e]; exact HR0.out), ⟨HN4.out.2.1.trans hT (fun k hk e => by omega), fun _ _ => rfl⟩, map_erase L i⟩)
  clear hb4
  rcases hcs with ⟨hd, rfl⟩ | ⟨m, v5, hd, rfl, hm⟩
  · have HD := Lib.hid hd
    clear hd
    have HZ5 := Lib.hid (setCells_at w.heap.size (zeroC).toList [] zeroC.toList w4 rfl hat2)
    have HT5 := Lib.hid (setCells_touch (S := fun k => k = w.heap.size) (a := w4) w.heap.size (fun _ => rfl) (zeroC).toList 0 w4 (Touch.refl _ _))
    have r0 := cell_of hat2 0; have r1 := cell_of hat2 1; have r2 := cell_of hat2 2; have r3 := cell_of hat2 3; have r4 := cell_of hat2 4; have r5 := cell_of hat2 5; have r6 := cell_of hat2 6; have r7 := cell_of hat2 7; have r8 := cell_of hat2 8; have r9 := cell_of hat2 9; have r10 := cell_of hat2 10
    simp at r0 r1 r2 r3 r4 r5 r6 r7 r8 r9 r10
    have f0 := free0 hat2 0; have f1 := free0 hat2 1; have f2 := free0 hat2 2; have f3 := free0 hat2 3; have f4 := free0 hat2 4; have f5 := free0 hat2 5; have f6 := free0 hat2 6; have f7 := free0 hat2 7; have f8 := free0 hat2 8; have f9 := free0 hat2 9; have f10 := free0 hat2 10
    clear hat2
    go_wp2_with fail
    change bodyPost _ _ _ _ _ (World.setCells _ w.heap.size 0 (zeroC).toList)
    simp only [List.length_nil, List.nil_append] at HZ5
    generalize World.setCells _ w.heap.size 0 (zeroC).toList = W5 at *
    clear r0 r1 r2 r3 r4 r5 r6 r7 r8 r9 r10 f0 f1 f2 f3 f4 f5 f6 f7 f8 f9 f10
    have j0 := cell_of HZ5.out 0; have j1 := cell_of HZ5.out 1; have j2 := cell_of HZ5.out 2; have j3 := cell_of HZ5.out 3; have j4 := cell_of HZ5.out 4; have j5 := cell_of HZ5.out 5; have j6 := cell_of HZ5.out 6; have j7 := cell_of HZ5.out 7; have j8 := cell_of HZ5.out 8; have j9 := cell_of HZ5.out 9; have j10 := cell_of HZ5.out 10
    simp at j0 j1 j2 j3 j4 j5 j6 j7 j8 j9 j10
    refine bodyPost_ret (v := .tuple #[zeroM, .int .i64 6]) (by simp [results, Tryz.results22, go_sem, j0, j1, j2, j3, j4, j5, j6, j7, j8, j9, j10]) rfl ?_
    exact ⟨HFIN.out _ HT5.out, .inl ⟨HD.out, rfl⟩⟩
  · obtain ⟨tA, tc, oA, oc, rfl, _⟩ := hm w4 (Touch.refl _ _)
    have HD := Lib.hid (And.intro hd hm)
    clear hd hm
    have HZ5 := Lib.hid (setCells_at w.heap.size (cellM m tA tc oA oc).toList [] zeroC.toList w4 rfl hat2)
    have HT5 := Lib.hid (setCells_touch (S := fun k => k = w.heap.size) (a := w4) w.heap.size (fun _ => rfl) (cellM m tA tc oA oc).toList 0 w4 (Touch.refl _ _))
    have r0 := cell_of hat2 0; have r1 := cell_of hat2 1; have r2 := cell_of hat2 2; have r3 := cell_of hat2 3; have r4 := cell_of hat2 4; have r5 := cell_of hat2 5; have r6 := cell_of hat2 6; have r7 := cell_of hat2 7; have r8 := cell_of hat2 8; have r9 := cell_of hat2 9; have r10 := cell_of hat2 10
    simp at r0 r1 r2 r3 r4 r5 r6 r7 r8 r9 r10
    have f0 := free0 hat2 0; have f1 := free0 hat2 1; have f2 := free0 hat2 2; have f3 := free0 hat2 3; have f4 := free0 hat2 4; have f5 := free0 hat2 5; have f6 := free0 hat2 6; have f7 := free0 hat2 7; have f8 := free0 hat2 8; have f9 := free0 hat2 9; have f10 := free0 hat2 10
    clear hat2
    go_wp2_with fail
    change bodyPost _ _ _ _ _ (World.setCells _ w.heap.size 0 (cellM m tA tc oA oc).toList)
    simp only [List.length_nil, List.nil_append] at HZ5
    generalize World.setCells _ w.heap.size 0 (cellM m tA tc oA oc).toList = W5 at *
    clear r0 r1 r2 r3 r4 r5 r6 r7 r8 r9 r10 f0 f1 f2 f3 f4 f5 f6 f7 f8 f9 f10
    have j0 := cell_of HZ5.out 0; have j1 := cell_of HZ5.out 1; have j2 := cell_of HZ5.out 2; have j3 := cell_of HZ5.out 3; have j4 := cell_of HZ5.out 4; have j5 := cell_of HZ5.out 5; have j6 := cell_of HZ5.out 6; have j7 := cell_of HZ5.out 7; have j8 := cell_of HZ5.out 8; have j9 := cell_of HZ5.out 9; have j10 := cell_of HZ5.out 10
    simp at j0 j1 j2 j3 j4 j5 j6 j7 j8 j9 j10
    refine bodyPost_ret (v := .tuple #[.agg (cellM m tA tc oA oc), .int .i64 0]) (by simp [results, Tryz.results22, go_sem, j0, j1, j2, j3, j4, j5, j6, j7, j8, j9, j10]) rfl ?_
    exact ⟨HFIN.out _ HT5.out, .inr ⟨m, _, HD.out.1, rfl, HD.out.2 _ (HT5.out.mono (fun k _ e => by have := HS3.out; omega))⟩⟩
end
end Go.Proofs.YtmbonngjkgcijaaGreatDoor
