/- The tape: Trim of too much; a spent fuse at Trim and Drop. The tape: Trim of too much. The tape: a spent fuse at Drop. -/
import Derived.Test.YtnegnokielmgkaaGreatDoorZTapV
import Derived.Deep.RegionHeld
import Derived.Deep.RegionHeld3
set_option linter.unusedSimpArgs false
set_option linter.unusedVariables false
set_option linter.unnecessarySimpa false
namespace Go.Proofs.YtnegnokielmgkaaGreatDoor
open Go.RowKit

set_option maxRecDepth 100000 in
set_option maxHeartbeats 2000000 in
theorem trim_dead {w : World} {t : Nat} {T : Tp} (hG : Glob w) (hT : TapeAt w t T) {seg : Int} (hE : readyE T seg = 0) {j : Nat} {e : Ent} (hj : T.L[j]? = some e) (he : e.n = seg) {n : Nat} (hn : n ≤ e.b.length) (hs : spent T = true) (hg : 0 ∉ T.blocks t) :
    Calls Tryz.prog 45 #[.pointer (some ⟨t, 0, none⟩), .int .i64 seg, .int .i64 (n : Int)] w fun x w' => x = .returned (.int .i64 8) ∧ TapeAt w' t { T with down := true } ∧ Touch (· = t) w w' := by
  have hB0 := below_new (w := w) (.cells #[.int .i64 (n : Int)] 3)
  have HO := Lib.hid (open_hit (hT.below hB0) hE hj he)
  have HB0 := Lib.hid hB0
  have hk0 : (w.alloc (.cells #[.int .i64 (n : Int)] 3)).cell? ⟨w.heap.size, 0, none⟩ = some (.int .i64 (n : Int)) := cell_of (alloc_at w _) 0
  have HK0 := Lib.hid (fun W (hW : Below (w.alloc (.cells #[.int .i64 (n : Int)] 3)).heap.size (w.alloc (.cells #[.int .i64 (n : Int)] 3)) W) => (hW.cell (p := ⟨w.heap.size, 0, none⟩) (by rw [asz]; exact Nat.lt_succ_self _)).trans hk0)
  have hmf : ∀ (fn : Fn) (first cap : Array Value) (w : World), (Instr.makeFunc fn first cap).run Tryz.prog w = .ok (.func fn first cap) w := fun _ _ _ _ => rfl
  have hse := hT.segs e (List.mem_of_getElem? hj)
  have hel := heap_lt hse.head
  obtain ⟨Ae, ce, eve, hA0, hA1, hce, -, -⟩ := row_upto hse.row hn
  have hcb : w.cell? ⟨e.sb, 0, none⟩ = some (.slice Ae e.b.length ce) := by rw [cell_of hse.head 0, ← eve]; rfl
  have HCB := Lib.hid (fun W (hW : Below w.heap.size w W) => (hW.cell (p := ⟨e.sb, 0, none⟩) hel).trans hcb)
  have hlen : e.b.length ≤ 1048576 := Nat.le_trans (used_mem (List.mem_of_getElem? hj)) hT.used
  have HUP := Lib.hid (fun W => upto_ok (w := W) (most := (e.b.length : Int)) (n := (n : Int)) (by omega) (by omega))
  have HCH : Hid (∀ W f, Below w.heap.size w W → Calls Tryz.prog 59 #[.pointer (some ⟨t, 0, none⟩), .nilIface, f] W fun x w' => x = .returned (.int .i64 8) ∧ TapeAt w' t { T with down := true } ∧ Touch (· = t) w w') := fun W f hW =>
    (change_dead (hG.below hW) (hT.below hW) hs (fun e => hg (mem_blocks.2 (.inl e)))).mono fun x w' ⟨h1, h2, h3⟩ => ⟨h1, h2, Touch.ahead hW h3⟩
  clear hG hT hE hj he hs hg hk0 hn hse hA0 hA1 hcb eve
  go_enter Tryz.func45, Tryz.ntmps45
  go_wp2_with fail
  refine (HO.out).mono ?_
  rintro x w1 ⟨rfl, hb1⟩
  have HB1 := Lib.hid (HB0.out.trans (hb1.mono HB0.out.size))
  have hA := below_new (w := w1) (.cells #[.pointer (some ⟨e.sb, 0, none⟩)] 86)
  have kn := HK0.out _ (hb1.trans (hA.mono hb1.size))
  have ks : (w1.alloc (.cells #[.pointer (some ⟨e.sb, 0, none⟩)] 86)).cell? ⟨w1.heap.size, 0, none⟩ = some (.pointer (some ⟨e.sb, 0, none⟩)) := cell_of (alloc_at w1 _) 0
  have kc := HCB.out _ (HB1.out.trans (hA.mono HB1.out.size))
  have hsz1 : w.heap.size < w1.heap.size := by have := hb1.size; rw [asz] at this; omega
  have HIN := Lib.hid (fun W => in_nil ⟨#[116, 114, 105, 109]⟩ W)
  have HC := Lib.hid (fun W f (hW : Below (w1.alloc (.cells #[.pointer (some ⟨e.sb, 0, none⟩)] 86)).heap.size (w1.alloc (.cells #[.pointer (some ⟨e.sb, 0, none⟩)] 86)) W) => HCH.out W f ((HB1.out.trans (hA.mono HB1.out.size)).trans (hW.mono (by rw [asz]; have := HB1.out.size; omega))))
  clear hb1 hA
  go_wp2_with fail
  go_region_held (fun W => W.cell? ⟨w1.heap.size, 0, none⟩ = some (.pointer (some ⟨e.sb, 0, none⟩)) ∧ W.cell? ⟨w.heap.size, 0, none⟩ = some (.int .i64 (n : Int)) ∧ W.cell? ⟨e.sb, 0, none⟩ = some (.slice Ae e.b.length ce)) ((first | go_keep | exact ⟨ks, kn, kc⟩ | assumption | exact ⟨by assumption, by assumption, by assumption⟩)) (first | (go_at_call 74; refine (HUP.out _).mono ?_; rintro x w5 ⟨rfl, rfl⟩))
  all_goals
    go_wp2_with fail
    refine (HIN.out _).mono ?_
    rintro x w6 ⟨rfl, rfl⟩
    go_wp2_with fail
    refine (HC.out _ _ (by first | exact below_drew (Below.refl _ _) | exact below_drewN (Below.refl _ _) _ | exact Below.refl _ _)).mono ?_
    rintro x w7 ⟨rfl, h7⟩
    have H7 := Lib.hid h7
    clear h7
    go_wp2
    go_ret
    exact ⟨rfl, H7.out⟩
end Go.Proofs.YtnegnokielmgkaaGreatDoor

namespace Go.Proofs.YtnegnokielmgkaaGreatDoor
open Go.RowKit

set_option maxRecDepth 100000 in
set_option maxHeartbeats 2000000 in
theorem trim_arg {w : World} {t : Nat} {T : Tp} (hG : Glob w) (hT : TapeAt w t T) {seg : Int} (hE : readyE T seg = 0) {j : Nat} {e : Ent} (hj : T.L[j]? = some e) (he : e.n = seg) {n : Int} (hn : n < 0 ∨ (e.b.length : Int) < n) :
    Calls Tryz.prog 45 #[.pointer (some ⟨t, 0, none⟩), .int .i64 seg, .int .i64 n] w fun x w' => x = .returned (.int .i64 2) ∧ Below w.heap.size w w' := by
  have hB0 := below_new (w := w) (.cells #[.int .i64 n] 3)
  have HO := Lib.hid (open_hit (hT.below hB0) hE hj he)
  have HB0 := Lib.hid hB0
  have hk0 : (w.alloc (.cells #[.int .i64 n] 3)).cell? ⟨w.heap.size, 0, none⟩ = some (.int .i64 n) := cell_of (alloc_at w _) 0
  have HK0 := Lib.hid (fun W (hW : Below (w.alloc (.cells #[.int .i64 n] 3)).heap.size (w.alloc (.cells #[.int .i64 n] 3)) W) => (hW.cell (p := ⟨w.heap.size, 0, none⟩) (by rw [asz]; exact Nat.lt_succ_self _)).trans hk0)
  have hmf : ∀ (fn : Fn) (first cap : Array Value) (w : World), (Instr.makeFunc fn first cap).run Tryz.prog w = .ok (.func fn first cap) w := fun _ _ _ _ => rfl
  have hse := hT.segs e (List.mem_of_getElem? hj)
  have hel := heap_lt hse.head
  obtain ⟨Ae, ce, eve, hA0, hA1, hce, -, -⟩ := row_upto hse.row (Nat.le_refl _)
  have hcb : w.cell? ⟨e.sb, 0, none⟩ = some (.slice Ae e.b.length ce) := by rw [cell_of hse.head 0, ← eve]; rfl
  have HCB := Lib.hid (fun W (hW : Below w.heap.size w W) => (hW.cell (p := ⟨e.sb, 0, none⟩) hel).trans hcb)
  have hlen : e.b.length ≤ 1048576 := Nat.le_trans (used_mem (List.mem_of_getElem? hj)) hT.used
  have HUP := Lib.hid (fun W => (upto_no (w := W) (most := (e.b.length : Int)) (n := n) hn).mono fun x w' (h : ∃ v, x = .returned v ∧ ErrIs w' [.bnd (e.b.length : Int) n, .num 2] v ∧ Below W.heap.size W w') => (h.elim fun v h => ⟨v, h.1, .of _ h.2.1 h.2.2 rfl (by simp) (by decide) (.cons rfl (numOk_one (by decide))) (by simp)⟩ : ∃ v, x = .returned v ∧ ErrP 2 W v w'))
  have HG := Lib.hid hG
  clear hG hT hE hj he hk0 hn hse hA0 hA1 hcb eve
  go_enter Tryz.func45, Tryz.ntmps45
  go_wp2_with fail
  refine (HO.out).mono ?_
  rintro x w1 ⟨rfl, hb1⟩
  have HB1 := Lib.hid (HB0.out.trans (hb1.mono HB0.out.size))
  have hA := below_new (w := w1) (.cells #[.pointer (some ⟨e.sb, 0, none⟩)] 86)
  have kn := HK0.out _ (hb1.trans (hA.mono hb1.size))
  have ks : (w1.alloc (.cells #[.pointer (some ⟨e.sb, 0, none⟩)] 86)).cell? ⟨w1.heap.size, 0, none⟩ = some (.pointer (some ⟨e.sb, 0, none⟩)) := cell_of (alloc_at w1 _) 0
  have kc := HCB.out _ (HB1.out.trans (hA.mono HB1.out.size))
  have hsz1 : w.heap.size < w1.heap.size := by have := hb1.size; rw [asz] at this; omega
  have HA := Lib.hid (HB1.out.trans (hA.mono HB1.out.size))
  have HKP := Lib.hid (fun W (hW : Below (w1.alloc (.cells #[.pointer (some ⟨e.sb, 0, none⟩)] 86)).heap.size (w1.alloc (.cells #[.pointer (some ⟨e.sb, 0, none⟩)] 86)) W) => And.intro ((hW.cell (p := ⟨w1.heap.size, 0, none⟩) (by rw [asz]; exact Nat.lt_succ_self _)).trans ks) (And.intro ((hW.cell (p := ⟨w.heap.size, 0, none⟩) (by rw [asz]; exact Nat.lt_succ_of_lt hsz1)).trans kn) ((hW.cell (p := ⟨e.sb, 0, none⟩) (by rw [asz]; exact Nat.lt_succ_of_lt (Nat.lt_trans hel hsz1))).trans kc)))
  clear hb1 hA
  go_wp2_with fail
  go_region_held (fun W => W.cell? ⟨w1.heap.size, 0, none⟩ = some (.pointer (some ⟨e.sb, 0, none⟩)) ∧ W.cell? ⟨w.heap.size, 0, none⟩ = some (.int .i64 n) ∧ W.cell? ⟨e.sb, 0, none⟩ = some (.slice Ae e.b.length ce)) ((first | go_keep | exact ⟨ks, kn, kc⟩ | assumption | exact ⟨by assumption, by assumption, by assumption⟩)) (first | (go_at_call 74; refine (HUP.out _).mono ?_; rintro x w5 ⟨v5, rfl, h5⟩; have hks := HKP.out _ (Below.trans (below_drew (Below.refl _ _)) h5.below)))
  all_goals
    have HP := Lib.hid h5
    obtain ⟨tt, uu, rfl⟩ := h5.form (by decide)
    have HB5 := Lib.hid (HA.out.trans (Below.mono (below_drew (Below.refl _ _)) HA.out.size))
    have HIN := Lib.hid (in_err ⟨#[116, 114, 105, 109]⟩ HP.out (Below.refl _ _))
    clear h5
    go_wp2_with fail
    refine (HIN.out).mono ?_
    rintro x w6 ⟨v6, rfl, hq, hb6⟩
    have HC := Lib.hid (fun f => change_err (f := f) (p := .pointer (some ⟨t, 0, none⟩)) (HG.out.below HB5.out) hq (by decide) (Below.refl _ _))
    have HB6 := Lib.hid ((HB5.out.trans (HP.out.below.mono HB5.out.size)).trans (hb6.mono (Nat.le_trans HB5.out.size HP.out.below.size)))
    obtain ⟨t6, u6, rfl⟩ := hq.form (by decide)
    clear hq hb6
    go_wp2_with fail
    refine (HC.out _).mono ?_
    rintro x w7 ⟨rfl, hb7⟩
    have HB7 := Lib.hid (HB6.out.trans (hb7.mono HB6.out.size))
    clear hb7
    go_wp2
    go_ret
    exact ⟨rfl, HB7.out⟩
end Go.Proofs.YtnegnokielmgkaaGreatDoor

namespace Go.Proofs.YtnegnokielmgkaaGreatDoor
open Go.RowKit

set_option maxRecDepth 100000 in
set_option maxHeartbeats 2000000 in
theorem drop_dead {w : World} {t : Nat} {T : Tp} (hG : Glob w) (hT : TapeAt w t T) {seg : Int} (hE : readyE T seg = 0) {j : Nat} {e : Ent} (hj : T.L[j]? = some e) (he : e.n = seg) (hs : spent T = true) (hg : 0 ∉ T.blocks t) :
    Calls Tryz.prog 46 #[.pointer (some ⟨t, 0, none⟩), .int .i64 seg] w fun x w' => x = .returned (.int .i64 8) ∧ TapeAt w' t { T with down := true } ∧ Touch (· = t) w w' := by
  have hlt := hT.lt
  obtain ⟨m, hm⟩ : ∃ m, T.m = some m := by
    have := hT.map
    cases h : T.m with
    | none => rw [h] at this; rw [show T.L = [] from this] at hj; cases hj
    | some m => exact ⟨m, rfl⟩
  have HO := Lib.hid (open_hit (hT.below (dropW_below w (some ⟨t, 0, none⟩) seg)) hE hj he)
  have HB0 := Lib.hid (dropW_below w (some ⟨t, 0, none⟩) seg)
  obtain ⟨k0, k1⟩ := dropW_cells w (some ⟨t, 0, none⟩) seg
  have HCL := Lib.hid (fun W (hW : Below (dropW w (some ⟨t, 0, none⟩) seg).heap.size (dropW w (some ⟨t, 0, none⟩) seg) W) => And.intro ((hW.cell (p := ⟨w.heap.size, 0, none⟩) (by rw [dropW_size]; simp only; omega)).trans k0) ((hW.cell (p := ⟨w.heap.size + 1, 0, none⟩) (by rw [dropW_size]; simp only; omega)).trans k1))
  have hmf : ∀ (fn : Fn) (first cap : Array Value) (w : World), (Instr.makeFunc fn first cap).run Tryz.prog w = .ok (.func fn first cap) w := fun _ _ _ _ => rfl
  have hn := (readyE_zero hE).1
  have HCH : Hid (∀ W f, Below w.heap.size w W → w.heap.size < W.heap.size → W.cell? ⟨w.heap.size, 0, none⟩ = some (.pointer (some ⟨t, 0, none⟩)) → Calls Tryz.prog 59 #[.pointer (some ⟨t, 0, none⟩), .nilIface, f] W fun x w' => x = .returned (.int .i64 8) ∧ (TapeAt w' t { T with down := true } ∧ Touch (· = t) w w') ∧ w.heap.size < w'.heap.size ∧ w'.cell? ⟨w.heap.size, 0, none⟩ = some (.pointer (some ⟨t, 0, none⟩))) := fun W f hW hsz k0 =>
    (change_dead (hG.below hW) (hT.below hW) hs (fun e => hg (mem_blocks.2 (.inl e)))).mono fun x w' ⟨h1, h2, h3⟩ => ⟨h1, ⟨h2, Touch.ahead hW h3⟩, Nat.lt_of_lt_of_le hsz h3.size, (World.cell?_of_block (a := ⟨w.heap.size, 0, none⟩) (h3.block w.heap.size hsz (fun h => by have := hT.ltT; omega))).trans k0⟩
  clear hG hT hE hj he hs hg k0 k1 hlt hn hm
  go_enter Tryz.func46, Tryz.ntmps46
  go_wp2_with fail
  refine (HO.out).mono ?_
  rintro x w4 ⟨rfl, hb4⟩
  have HB4 := Lib.hid (HB0.out.trans (hb4.mono HB0.out.size))
  have HC4 : Hid (∀ W, Below w4.heap.size w4 W → W.cell? ⟨w.heap.size, 0, none⟩ = some (.pointer (some ⟨t, 0, none⟩)) ∧ W.cell? ⟨w.heap.size + 1, 0, none⟩ = some (.int .i64 seg)) := fun W hW => HCL.out W (hb4.trans (hW.mono hb4.size))
  have hsz4 : w.heap.size + 1 < w4.heap.size := by
    have h1 := dropW_size w (some ⟨t, 0, none⟩) seg
    have h2 := hb4.size
    omega
  have HSZ := Lib.hid hsz4
  have hc4 := (HC4.out _ (Below.refl _ _)).1
  clear hb4 hsz4
  go_wp2_with fail
  go_region_held3 (fun W => W.cell? ⟨w.heap.size, 0, none⟩ = some (.pointer (some ⟨t, 0, none⟩))) ((first | go_keep | assumption)) (first | (go_at_call 60; refine (in_nil _ _).mono ?_; rintro e w5 ⟨rfl, rfl⟩) | (go_at_call 59; refine (HCH.out _ _ (below_drew HB4.out) (Nat.lt_of_succ_lt HSZ.out) (HC4.out _ (below_drew (Below.refl _ _))).1).mono ?_; rintro e w6 ⟨rfl, hd6, hd7, hd8⟩))
  all_goals
    go_wp2
    go_ret
    exact ⟨rfl, by assumption⟩
end Go.Proofs.YtnegnokielmgkaaGreatDoor
