/- The tape: Sync, Trim and Drop. -/
import Derived.Test.YtojmfjmnfpnmmaaDoorTapK
set_option linter.unusedSimpArgs false
set_option linter.unusedVariables false
set_option linter.unnecessarySimpa false
namespace Go.Proofs.YtojmfjmnfpnmmaaDoor
open Go.RowKit

set_option maxRecDepth 100000 in
set_option maxHeartbeats 1000000 in
theorem sync_nil {w : World} (hG : Glob w) (seg : Int) : Calls Tryd.prog 17 #[.pointer none, .int .i64 seg] w fun e w' => e = .returned (.int .i64 1) ∧ Below w.heap.size w w' := by
  have HO := Lib.hid (open_nil (w := w) seg)
  have HG := Lib.hid hG
  have hmf : ∀ (fn : Fn) (first cap : Array Value) (w : World), (Instr.makeFunc fn first cap).run Tryd.prog w = .ok (.func fn first cap) w := fun _ _ _ _ => rfl
  clear hG
  go_enter Tryd.func17, Tryd.ntmps17
  go_wp2_with fail
  refine (HO.out).mono ?_
  rintro e w1 ⟨v1, rfl, h1⟩
  have HB1 := Lib.hid h1.below
  have HA := Lib.hid (below_new (w := w1) (.cells #[.pointer none] 63))
  have HIN := Lib.hid (in_err ⟨#[115, 121, 110, 99]⟩ h1 HA.out)
  clear h1
  go_wp2_with fail
  refine (HIN.out).mono ?_
  rintro e w2 ⟨v2, rfl, hq, hb2⟩
  have HB2 := Lib.hid ((HB1.out.trans (HA.out.mono HB1.out.size)).trans (hb2.mono (by rw [asz]; have := HB1.out.size; omega)))
  have HC := Lib.hid (fun f => change_err (f := f) (p := .pointer none) HG.out hq (by decide) (Below.refl _ _))
  obtain ⟨tt, uu, rfl⟩ := hq.form (by decide)
  clear hq hb2
  go_wp2_with fail
  refine (HC.out _).mono ?_
  rintro e w3 ⟨rfl, hb3⟩
  have HB3 := Lib.hid (HB2.out.trans (hb3.mono HB2.out.size))
  clear hb3
  go_wp2
  go_ret
  exact ⟨rfl, HB3.out⟩
set_option maxRecDepth 100000 in
set_option maxHeartbeats 1000000 in
theorem trim_nil {w : World} (hG : Glob w) (seg n : Int) : Calls Tryd.prog 18 #[.pointer none, .int .i64 seg, .int .i64 n] w fun e w' => e = .returned (.int .i64 1) ∧ Below w.heap.size w w' := by
  have HA0 := Lib.hid (below_new (w := w) (.cells #[.int .i64 n] 3))
  have HO := Lib.hid (open_nil (w := w.alloc (.cells #[.int .i64 n] 3)) seg)
  have HG := Lib.hid (hG.below HA0.out)
  have hmf : ∀ (fn : Fn) (first cap : Array Value) (w : World), (Instr.makeFunc fn first cap).run Tryd.prog w = .ok (.func fn first cap) w := fun _ _ _ _ => rfl
  clear hG
  go_enter Tryd.func18, Tryd.ntmps18
  go_wp2_with fail
  refine (HO.out).mono ?_
  rintro e w1 ⟨v1, rfl, h1⟩
  have HB1 := Lib.hid (HA0.out.trans (h1.below.mono HA0.out.size))
  have HA := Lib.hid (below_new (w := w1) (.cells #[.pointer none] 63))
  have HIN := Lib.hid (in_err ⟨#[116, 114, 105, 109]⟩ h1 HA.out)
  obtain ⟨t0, u0, rfl⟩ := h1.form (by decide)
  clear h1
  go_wp2_with fail
  refine (HIN.out).mono ?_
  rintro e w2 ⟨v2, rfl, hq, hb2⟩
  have HB2 := Lib.hid ((HB1.out.trans (HA.out.mono HB1.out.size)).trans (hb2.mono (by rw [asz]; have := HB1.out.size; omega)))
  have HC := Lib.hid (fun f => change_err (f := f) (p := .pointer none) HG.out hq (by decide) (Below.refl _ _))
  obtain ⟨tt, uu, rfl⟩ := hq.form (by decide)
  clear hq hb2
  go_wp2_with fail
  refine (HC.out _).mono ?_
  rintro e w3 ⟨rfl, hb3⟩
  have HB3 := Lib.hid (HB2.out.trans (hb3.mono HB2.out.size))
  clear hb3
  go_wp2
  go_ret
  exact ⟨rfl, HB3.out⟩
/-- The world when Drop's arguments have their boxes. -/
def dropW (w : World) (p : Option Addr) (seg : Int) : World := (w.alloc (.cells #[.pointer p] 31)).alloc (.cells #[.int .i64 seg] 3)
theorem dropW_size (w : World) (p : Option Addr) (seg : Int) : (dropW w p seg).heap.size = w.heap.size + 1 + 1 := by unfold dropW; rw [asz, asz]
theorem dropW_below (w : World) (p : Option Addr) (seg : Int) : Below w.heap.size w (dropW w p seg) := by
  unfold dropW
  exact ((Below.refl _ _).alloc (Nat.le_refl _) _).alloc (by rw [asz]; omega) _
theorem dropW_cells (w : World) (p : Option Addr) (seg : Int) : (dropW w p seg).cell? ⟨w.heap.size, 0, none⟩ = some (.pointer p) ∧ (dropW w p seg).cell? ⟨w.heap.size + 1, 0, none⟩ = some (.int .i64 seg) := by
  unfold dropW
  refine ⟨cell_of ((Below.heap_alloc _ _ _ (by rw [asz]; omega)).trans (alloc_at w _)) 0, ?_⟩
  have := alloc_at (w.alloc (.cells #[.pointer p] 31)) (.cells #[.int .i64 seg] 3)
  rw [asz] at this
  exact cell_of this 0
set_option maxRecDepth 100000 in
set_option maxHeartbeats 2000000 in
theorem drop_err {w : World} {p : Option Addr} {seg : Int} {E : Int} (hG : Glob w) (hE : E ≠ 0)
    (hR : Calls Tryd.prog 36 #[.pointer p, .int .i64 seg] (dropW w p seg) fun e w' => ∃ v, e = .returned (.tuple #[.pointer none, v]) ∧ ErrP E (dropW w p seg) v w') :
    Calls Tryd.prog 12 #[.pointer p, .int .i64 seg] w fun e w' => e = .returned (.int .i64 E) ∧ Below w.heap.size w w' := by
  have HR := Lib.hid hR
  have HG := Lib.hid (hG.below (dropW_below w p seg))
  have HB0 := Lib.hid (dropW_below w p seg)
  obtain ⟨k0, k1⟩ := dropW_cells w p seg
  have HCL := Lib.hid (fun W (hW : Below (dropW w p seg).heap.size (dropW w p seg) W) => (hW.cell (p := ⟨w.heap.size, 0, none⟩) (by rw [dropW_size]; simp only; omega)).trans k0)
  have HE := Lib.hid hE
  have hmf : ∀ (fn : Fn) (first cap : Array Value) (w : World), (Instr.makeFunc fn first cap).run Tryd.prog w = .ok (.func fn first cap) w := fun _ _ _ _ => rfl
  clear hR hG k0 k1 hE
  go_enter Tryd.func12, Tryd.ntmps12
  go_wp2_with fail
  refine (HR.out).mono ?_
  rintro e w4 ⟨v4, rfl, h4⟩
  have hb4 := h4.below
  have HC4 : Hid (∀ W, Below w4.heap.size w4 W → W.cell? ⟨w.heap.size, 0, none⟩ = some (.pointer p)) := fun W hW => HCL.out W (hb4.trans (hW.mono hb4.size))
  have HB4 := Lib.hid (HB0.out.trans (hb4.mono HB0.out.size))
  have HIN := Lib.hid (fun W (hW : Below w4.heap.size w4 W) => (in_err ⟨#[100, 114, 111, 112]⟩ h4 hW).mono fun e w' (h : ∃ v', e = .returned v' ∧ ErrQ E (dropW w p seg) v' w' ∧ Below W.heap.size W w') => (h.elim fun v' h => ⟨v', h.1, h.2.1, hW.trans (h.2.2.mono hW.size)⟩ : ∃ v', e = .returned v' ∧ ErrQ E (dropW w p seg) v' w' ∧ Below w4.heap.size w4 w'))
  have HCH : Hid (∀ v' Wq f W, ErrQ E (dropW w p seg) v' Wq → Below Wq.heap.size Wq W → Below w4.heap.size w4 Wq → Calls Tryd.prog 32 #[.pointer p, v', f] W fun e w' => e = .returned (.int .i64 E) ∧ Below w4.heap.size w4 w') := fun v' Wq f W hq hW hb => (change_err HG.out hq HE.out hW).mono fun e w' ⟨h1, h2⟩ => ⟨h1, hb.trans ((hW.trans (h2.mono hW.size)).mono hb.size)⟩
  have hc4 := HC4.out _ (Below.refl _ _)
  obtain ⟨tt, uu, rfl⟩ := h4.form HE.out
  clear h4 hb4
  go_wp2_with fail
  go_region_held3 (fun W => W.cell? ⟨w.heap.size, 0, none⟩ = some (.pointer p)) ((first | go_keep | exact HC4.out _ (by assumption))) (first | (go_at_call 33; refine (HIN.out _ (by first | assumption | exact below_drew (Below.refl _ _))).mono ?_; rintro e w5 ⟨v5, rfl, hq5, hb5⟩) | (go_at_call 32; refine (HCH.out _ _ _ _ (by assumption) (Below.refl _ _) (by assumption)).mono ?_; rintro e w6 ⟨rfl, hb6⟩))
  all_goals
    go_wp2
    go_ret
    exact ⟨rfl, HB4.out.trans (Below.mono (by assumption) HB4.out.size)⟩
set_option maxRecDepth 100000 in
theorem sync_do {w : World} {b sb : Nat} {A : Option Addr} {n cap : Nat} {s : Value} (hb : w.cell? ⟨b, 0, none⟩ = some (.pointer (some ⟨sb, 0, none⟩))) (h0 : w.cell? ⟨sb, 0, none⟩ = some (.slice A n cap)) (h1 : w.cell? ⟨sb, 1, none⟩ = some s) (hf : w.frozen? ⟨sb, 1, none⟩ = false) :
    Calls Tryd.prog 43 #[.pointer (some ⟨b, 0, none⟩)] w fun e w' => e = .returned (.tuple #[]) ∧ w' = (w.setCell ⟨sb, 1, none⟩ (.int .i64 (n : Int))).drew := by
  go_enter Tryd.func43, Tryd.ntmps43
  go_wp2_with fail
  go_region
  all_goals
    go_wp2
    go_end0
    exact ⟨rfl, rfl⟩
/-- What a sync leaves. -/
def syncT (T : Tp) (j : Nat) (e : Ent) : Tp := { burnt T with L := T.L.set j { e with s := e.b.length } }
set_option maxRecDepth 100000 in
set_option maxHeartbeats 2000000 in
theorem sync_ok {w : World} {t : Nat} {T : Tp} (hG : Glob w) (hT : TapeAt w t T) {seg : Int} (hE : readyE T seg = 0) {j : Nat} {e : Ent} (hj : T.L[j]? = some e) (he : e.n = seg) (hs : spent T = false) (hg : 1 ∉ T.blocks t) :
    Calls Tryd.prog 17 #[.pointer (some ⟨t, 0, none⟩), .int .i64 seg] w fun x w' => x = .returned (.int .i64 0) ∧ TapeAt w' t (syncT T j e) ∧ Touch (fun k => k ∈ T.blocks t) w w' := by
  have HO := Lib.hid (open_hit hT hE hj he)
  have hmf : ∀ (fn : Fn) (first cap : Array Value) (w : World), (Instr.makeFunc fn first cap).run Tryd.prog w = .ok (.func fn first cap) w := fun _ _ _ _ => rfl
  have HCH : Hid (∀ W b, Below w.heap.size w W → w.heap.size ≤ b → b < W.heap.size → W.cell? ⟨b, 0, none⟩ = some (.pointer (some ⟨e.sb, 0, none⟩)) →
      Calls Tryd.prog 32 #[.pointer (some ⟨t, 0, none⟩), .nilIface, .func (.func 43) #[] #[.pointer (some ⟨b, 0, none⟩)]] W fun x w' => x = .returned (.int .i64 0) ∧ TapeAt w' t (syncT T j e) ∧ Touch (fun k => k ∈ T.blocks t) w w') := fun W b hW hb1 hb2 kb => by
    obtain ⟨b1, b2, b3⟩ := burntW_at (hT.below hW)
    have hTW : Touch (fun k => k ∈ T.blocks t) w (burntW W t T) := Touch.ahead hW (b2.mono fun i _ hi => mem_blocks.2 (.inl hi))
    have hbt : b ≠ t := fun h => by have := hT.ltT; omega
    have hgw : ∀ w', Touch (fun k => k ∈ T.blocks t) w w' → Glob w' := fun w' h => (World.cell?_of_block (a := ⟨1, 0, none⟩) (h.block _ hG.lt hg)).trans hG
    refine change_sync (hG.below hW) (hT.below hW) hs (fun e => hg (mem_blocks.2 (.inl e))) (fun w' => TapeAt w' t (syncT T j e) ∧ Touch (fun k => k ∈ T.blocks t) w w') (fun W1 W2 h hb => ⟨h.1.below hb, h.2.after hb⟩) (fun W1 h => hgw _ h.2) ?_
    have hj' : (burnt T).L[j]? = some e := by rw [burnt_L]; exact hj
    have hsg := b1.segs e (List.mem_of_getElem? hj')
    obtain ⟨A, cap, ev, _⟩ := hsg.row.form
    have h0 := cell_of hsg.head 0
    replace h0 : (burntW W t T).cell? ⟨e.sb, 0, none⟩ = some (.slice A e.b.length cap) := by rw [h0, ← ev]; rfl
    refine (sync_do (s := .int .i64 (e.s : Int)) ((World.cell?_of_block (a := ⟨b, 0, none⟩) (b2.block b hb2 hbt)).trans kb) h0 (cell_of hsg.head 1) (free0 hsg.head 1)).mono ?_
    rintro x w' ⟨rfl, rfl⟩
    refine ⟨rfl, ?_, ?_⟩
    · have h9 : TapeAt ((burntW W t T).setCell ⟨e.sb, 1, none⟩ (.int .i64 ((e.b.length : Nat) : Int))) t _ := b1.seg hj' (v := e.v) (b := e.b) (s := e.b.length) (Nat.le_of_eq (setCell_size _ _ _).symm) (fun k _ h1 _ => Below.heap_setCell _ _ _ _ h1) (set_at hsg.head 1 _)
        (hsg.row.keep (Nat.le_of_eq (setCell_size _ _ _).symm) (fun g hg' => Below.heap_setCell _ _ _ _ (fun h => b1.sep.own e (List.mem_of_getElem? hj') (by rw [hg', h])))) (.inl rfl) (Nat.le_refl _) (by have := b1.used; omega)
      rw [burnt_L] at h9
      exact h9.below (Below.refl _ _).drew
    · exact (hTW.setCell ⟨e.sb, 1, none⟩ (fun _ => mem_blocks.2 (.inr (.inr ⟨e, List.mem_of_getElem? hj, List.mem_cons_self ..⟩))) _).drew
  clear hG hT hE hj he hs hg
  go_enter Tryd.func17, Tryd.ntmps17
  go_wp2_with fail
  refine (HO.out).mono ?_
  rintro x w1 ⟨rfl, hb1⟩
  have HB1 := Lib.hid hb1
  clear hb1
  have HIN := Lib.hid (in_nil ⟨#[115, 121, 110, 99]⟩ (w1.alloc (.cells #[.pointer (some ⟨e.sb, 0, none⟩)] 63)))
  have hA := below_new (w := w1) (.cells #[.pointer (some ⟨e.sb, 0, none⟩)] 63)
  have HC := Lib.hid (HCH.out _ w1.heap.size (HB1.out.trans (hA.mono HB1.out.size)) HB1.out.size (by rw [asz]; omega) (cell_of (alloc_at w1 _) 0))
  clear hA
  go_wp2_with fail
  refine (HIN.out).mono ?_
  rintro x w2 ⟨rfl, rfl⟩
  go_wp2_with fail
  refine (HC.out).mono ?_
  rintro x w3 ⟨rfl, h3⟩
  have H3 := Lib.hid h3
  clear h3
  go_wp2
  go_ret
  exact ⟨rfl, H3.out⟩
end Go.Proofs.YtojmfjmnfpnmmaaDoor
