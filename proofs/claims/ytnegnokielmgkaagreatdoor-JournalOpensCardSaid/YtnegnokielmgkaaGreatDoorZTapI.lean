/- The tape: Append. The tape: Append, where nothing is wrong; where there is no room, or no power. -/
import Derived.Test.YtnegnokielmgkaaGreatDoorZTapE
import Derived.Deep.RegionHeld3
set_option linter.unusedSimpArgs false
set_option linter.unusedVariables false
set_option linter.unnecessarySimpa false
namespace Go.Proofs.YtnegnokielmgkaaGreatDoor
open Go.RowKit
open Go.Maps (Keyed)

theorem appendS : (⟨#[97, 112, 112, 101, 110, 100]⟩ : ByteArray) = ⟨#[97, 112, 112, 101, 110, 100]⟩ := rfl
/-- The world when Append's arguments have their boxes. -/
def appW (w : World) (p : Option Addr) (seg : Int) (v : Value) : World := ((w.alloc (.cells #[.pointer p] 24)).alloc (.cells #[.int .i64 seg] 3)).alloc (.cells #[v] 42)
theorem appW_size (w : World) (p : Option Addr) (seg : Int) (v : Value) : (appW w p seg v).heap.size = w.heap.size + 1 + 1 + 1 := by unfold appW; rw [asz, asz, asz]
theorem appW_below (w : World) (p : Option Addr) (seg : Int) (v : Value) : Below w.heap.size w (appW w p seg v) := by
  unfold appW
  exact (((Below.refl _ _).alloc (Nat.le_refl _) _).alloc (by rw [asz]; omega) _).alloc (by rw [asz, asz]; omega) _
theorem appW_cells (w : World) (p : Option Addr) (seg : Int) (v : Value) : (appW w p seg v).cell? ⟨w.heap.size, 0, none⟩ = some (.pointer p) ∧ (appW w p seg v).cell? ⟨w.heap.size + 1, 0, none⟩ = some (.int .i64 seg) ∧ (appW w p seg v).cell? ⟨w.heap.size + 1 + 1, 0, none⟩ = some v := by
  unfold appW
  refine ⟨?_, ?_, ?_⟩
  · exact cell_of (((Below.heap_alloc _ _ _ (by rw [asz, asz]; omega)).trans (Below.heap_alloc _ _ _ (by rw [asz]; omega))).trans (alloc_at w _)) 0
  · have := alloc_at (w.alloc (.cells #[.pointer p] 24)) (.cells #[.int .i64 seg] 3)
    rw [asz] at this
    exact cell_of ((Below.heap_alloc _ _ _ (by rw [asz, asz]; omega)).trans this) 0
  · have := alloc_at ((w.alloc (.cells #[.pointer p] 24)).alloc (.cells #[.int .i64 seg] 3)) (.cells #[v] 42)
    rw [asz, asz] at this
    exact cell_of this 0

set_option maxRecDepth 100000 in
set_option maxHeartbeats 2000000 in
/-- ready says no. -/
theorem append_err {w : World} {p : Option Addr} {seg : Int} {A : Option Addr} {n c : Nat} {E : Int} (hG : Glob w) (hE : E ≠ 0)
    (hR : Calls Tryz.prog 57 #[.pointer p, .int .i64 seg] (appW w p seg (.slice A n c)) fun e w' => ∃ v, e = .returned v ∧ ErrP E (appW w p seg (.slice A n c)) v w') :
    Calls Tryz.prog 22 #[.pointer p, .int .i64 seg, .slice A n c] w fun e w' => e = .returned (.int .i64 E) ∧ Below w.heap.size w w' := by
  have HR := Lib.hid hR
  have HG := Lib.hid (hG.below (appW_below w p seg (.slice A n c)))
  have HB0 := Lib.hid (appW_below w p seg (.slice A n c))
  obtain ⟨k0, k1, k2⟩ := appW_cells w p seg (.slice A n c)
  have HCL := Lib.hid (fun W (hW : Below (appW w p seg (.slice A n c)).heap.size (appW w p seg (.slice A n c)) W) => (hW.cell (p := ⟨w.heap.size, 0, none⟩) (by rw [appW_size]; simp only; omega)).trans k0)
  have HE := Lib.hid hE
  have hmf : ∀ (fn : Fn) (first cap : Array Value) (w : World), (Instr.makeFunc fn first cap).run Tryz.prog w = .ok (.func fn first cap) w := fun _ _ _ _ => rfl
  clear hR hG k0 k1 k2 hE
  go_enter Tryz.func22, Tryz.ntmps22
  go_wp2_with fail
  refine (HR.out).mono ?_
  rintro e w4 ⟨v4, rfl, h4⟩
  have hb4 := h4.below
  have HC4 : Hid (∀ W, Below w4.heap.size w4 W → W.cell? ⟨w.heap.size, 0, none⟩ = some (.pointer p)) := fun W hW => HCL.out W (hb4.trans (hW.mono hb4.size))
  have HB4 := Lib.hid (HB0.out.trans (hb4.mono HB0.out.size))
  have HIN := Lib.hid (fun W (hW : Below w4.heap.size w4 W) => (in_err ⟨#[97, 112, 112, 101, 110, 100]⟩ h4 hW).mono fun e w' (h : ∃ v', e = .returned v' ∧ ErrQ E (appW w p seg (.slice A n c)) v' w' ∧ Below W.heap.size W w') => (h.elim fun v' h => ⟨v', h.1, h.2.1, hW.trans (h.2.2.mono hW.size)⟩ : ∃ v', e = .returned v' ∧ ErrQ E (appW w p seg (.slice A n c)) v' w' ∧ Below w4.heap.size w4 w'))
  have HCH : Hid (∀ v' Wq f W, ErrQ E (appW w p seg (.slice A n c)) v' Wq → Below Wq.heap.size Wq W → Below w4.heap.size w4 Wq → Calls Tryz.prog 59 #[.pointer p, v', f] W fun e w' => e = .returned (.int .i64 E) ∧ Below w4.heap.size w4 w') := fun v' Wq f W hq hW hb => (change_err HG.out hq HE.out hW).mono fun e w' ⟨h1, h2⟩ => ⟨h1, hb.trans ((hW.trans (h2.mono hW.size)).mono hb.size)⟩
  have hc4 := HC4.out _ (Below.refl _ _)
  obtain ⟨tt, uu, rfl⟩ := h4.form HE.out
  clear h4 hb4
  go_wp2_with fail
  go_region_held3 (fun W => W.cell? ⟨w.heap.size, 0, none⟩ = some (.pointer p)) ((first | go_keep | exact HC4.out _ (by assumption))) (first | (go_at_call 60; refine (HIN.out _ (by first | assumption | exact below_drew (Below.refl _ _))).mono ?_; rintro e w5 ⟨v5, rfl, hq5, hb5⟩) | (go_at_call 59; refine (HCH.out _ _ _ _ (by assumption) (Below.refl _ _) (by assumption)).mono ?_; rintro e w6 ⟨rfl, hb6⟩))
  all_goals
    go_wp2
    go_ret
    exact ⟨rfl, HB4.out.trans (Below.mono (by assumption) HB4.out.size)⟩
end Go.Proofs.YtnegnokielmgkaaGreatDoor

namespace Go.Proofs.YtnegnokielmgkaaGreatDoor
open Go.RowKit
open Go.Maps (Keyed)

set_option maxRecDepth 100000 in
set_option maxHeartbeats 2000000 in
/-- There is no room. -/
theorem append_full {w : World} {t : Nat} {T : Tp} {seg : Int} {A : Option Addr} {n c : Nat} (hG : Glob w) (hT : TapeAt w t T) (hE0 : readyE T seg = 0)
    (hF : ∀ W, Below w.heap.size w W → Calls Tryz.prog 58 #[.pointer (some ⟨t, 0, none⟩), .int .i64 seg, .slice A n c] W fun e w' => ∃ v, e = .returned v ∧ ErrP 5 W v w') :
    Calls Tryz.prog 22 #[.pointer (some ⟨t, 0, none⟩), .int .i64 seg, .slice A n c] w fun e w' => e = .returned (.int .i64 5) ∧ Below w.heap.size w w' := by
  have HR := Lib.hid (ready_any (hT.below (appW_below w (some ⟨t, 0, none⟩) seg (.slice A n c))) seg)
  rw [hE0] at HR
  have HF := Lib.hid hF
  have HG := Lib.hid (hG.below (appW_below w (some ⟨t, 0, none⟩) seg (.slice A n c)))
  have HB0 := Lib.hid (appW_below w (some ⟨t, 0, none⟩) seg (.slice A n c))
  obtain ⟨k0, k1, k2⟩ := appW_cells w (some ⟨t, 0, none⟩) seg (.slice A n c)
  have HCL := Lib.hid (fun W (hW : Below (appW w (some ⟨t, 0, none⟩) seg (.slice A n c)).heap.size (appW w (some ⟨t, 0, none⟩) seg (.slice A n c)) W) => And.intro ((hW.cell (p := ⟨w.heap.size, 0, none⟩) (by rw [appW_size]; simp only; omega)).trans k0) (And.intro ((hW.cell (p := ⟨w.heap.size + 1, 0, none⟩) (by rw [appW_size]; simp only; omega)).trans k1) ((hW.cell (p := ⟨w.heap.size + 1 + 1, 0, none⟩) (by rw [appW_size]; simp only; omega)).trans k2)))
  have hmf : ∀ (fn : Fn) (first cap : Array Value) (w : World), (Instr.makeFunc fn first cap).run Tryz.prog w = .ok (.func fn first cap) w := fun _ _ _ _ => rfl
  clear hT hF hG k0 k1 k2 hE0
  go_enter Tryz.func22, Tryz.ntmps22
  go_wp2_with fail
  refine (HR.out).mono ?_
  rintro e w3 ⟨v3, rfl, h3⟩
  obtain ⟨rfl, hb3⟩ := h3.nil
  have HB3 := Lib.hid (HB0.out.trans (hb3.mono HB0.out.size))
  obtain ⟨k0, k1, k2⟩ := HCL.out _ hb3
  have HB3' := Lib.hid hb3
  have HFI := Lib.hid (HF.out _ HB3.out)
  clear h3 hb3
  go_wp2_with fail
  refine (HFI.out).mono ?_
  rintro e w4 ⟨v4, rfl, h4⟩
  have hb4 := h4.below
  have HC4 : Hid (∀ W, Below w4.heap.size w4 W → W.cell? ⟨w.heap.size, 0, none⟩ = some (.pointer (some ⟨t, 0, none⟩))) := fun W hW => (HCL.out W ((HB3'.out.trans (hb4.mono HB3'.out.size)).trans (hW.mono (HB3'.out.trans (hb4.mono HB3'.out.size)).size))).1
  have HB4 := Lib.hid (HB3.out.trans (hb4.mono HB3.out.size))
  have HG3 := Lib.hid (HG.out.below HB3'.out)
  have HIN := Lib.hid (fun W (hW : Below w4.heap.size w4 W) => (in_err ⟨#[97, 112, 112, 101, 110, 100]⟩ h4 hW).mono fun e w' (h : ∃ v', e = .returned v' ∧ ErrQ 5 w3 v' w' ∧ Below W.heap.size W w') => (h.elim fun v' h => ⟨v', h.1, h.2.1, hW.trans (h.2.2.mono hW.size)⟩ : ∃ v', e = .returned v' ∧ ErrQ 5 w3 v' w' ∧ Below w4.heap.size w4 w'))
  have HCH : Hid (∀ v' Wq f W, ErrQ 5 w3 v' Wq → Below Wq.heap.size Wq W → Below w4.heap.size w4 Wq → Calls Tryz.prog 59 #[.pointer (some ⟨t, 0, none⟩), v', f] W fun e w' => e = .returned (.int .i64 5) ∧ Below w4.heap.size w4 w') := fun v' Wq f W hq hW hb => (change_err HG3.out hq (by decide) hW).mono fun e w' ⟨h1, h2⟩ => ⟨h1, hb.trans ((hW.trans (h2.mono hW.size)).mono hb.size)⟩
  have hc4 := HC4.out _ (Below.refl _ _)
  obtain ⟨tt, uu, rfl⟩ := h4.form (by decide)
  clear h4 hb4
  go_wp2_with fail
  go_region_held3 (fun W => W.cell? ⟨w.heap.size, 0, none⟩ = some (.pointer (some ⟨t, 0, none⟩))) ((first | go_keep | exact HC4.out _ (by assumption))) (first | (go_at_call 60; refine (HIN.out _ (by first | assumption | exact below_drew (Below.refl _ _))).mono ?_; rintro e w5 ⟨v5, rfl, hq5, hb5⟩) | (go_at_call 59; refine (HCH.out _ _ _ _ (by assumption) (Below.refl _ _) (by assumption)).mono ?_; rintro e w6 ⟨rfl, hb6⟩))
  all_goals
    go_wp2
    go_ret
    exact ⟨rfl, HB4.out.trans (Below.mono (by assumption) HB4.out.size)⟩
theorem burnt_blocks (T : Tp) (t : Nat) : (burnt T).blocks t = T.blocks t := by unfold burnt; split <;> rfl
theorem burnt_L (T : Tp) : (burnt T).L = T.L := by unfold burnt; split <;> rfl
/-- What an append leaves: the tape with the bytes, a change fewer in the fuse. -/
def AppP (w : World) (t : Nat) (T : Tp) (seg : Int) (d : List UInt8) (w' : World) : Prop := ∃ T', TapeAt w' t T' ∧ Alike (burnt T) T' ∧ abs T'.L = appA (abs T.L) seg d ∧ Touch (fun k => k ∈ T.blocks t) w w' ∧ ∀ k ∈ T'.blocks t, k ∈ T.blocks t ∨ w.heap.size ≤ k
theorem AppP.touch {w w' : World} {t : Nat} {T : Tp} {seg : Int} {d : List UInt8} (h : AppP w t T seg d w') : Touch (fun k => k ∈ T.blocks t) w w' := by
  obtain ⟨_, _, _, _, h, _⟩ := h
  exact h
theorem AppP.below {w w' w'' : World} {t : Nat} {T : Tp} {seg : Int} {d : List UInt8} (h : AppP w t T seg d w') (hb : Below w'.heap.size w' w'') : AppP w t T seg d w'' := by
  obtain ⟨T', h1, h2, h3, h4, h5⟩ := h
  exact ⟨T', h1.below hb, h2, h3, h4.after hb, h5⟩
set_option maxRecDepth 100000 in
set_option maxHeartbeats 2000000 in
theorem append_dead {w : World} {t : Nat} {T : Tp} {seg : Int} {A : Option Addr} {n c : Nat} (hG : Glob w) (hT : TapeAt w t T) (hE0 : readyE T seg = 0)
    (hF : ∀ W, Below w.heap.size w W → Calls Tryz.prog 58 #[.pointer (some ⟨t, 0, none⟩), .int .i64 seg, .slice A n c] W fun e w' => ∃ v, e = .returned v ∧ ErrP 0 W v w') (hs : spent T = true) (hg : 0 ∉ T.blocks t) :
    Calls Tryz.prog 22 #[.pointer (some ⟨t, 0, none⟩), .int .i64 seg, .slice A n c] w fun e w' => e = .returned (.int .i64 8) ∧ TapeAt w' t { T with down := true } ∧ Touch (· = t) w w' := by
  have HR := Lib.hid (ready_any (hT.below (appW_below w (some ⟨t, 0, none⟩) seg (.slice A n c))) seg)
  rw [hE0] at HR
  have HF := Lib.hid hF
  have HG := Lib.hid (hG.below (appW_below w (some ⟨t, 0, none⟩) seg (.slice A n c)))
  have HB0 := Lib.hid (appW_below w (some ⟨t, 0, none⟩) seg (.slice A n c))
  obtain ⟨k0, k1, k2⟩ := appW_cells w (some ⟨t, 0, none⟩) seg (.slice A n c)
  have HCL := Lib.hid (fun W (hW : Below (appW w (some ⟨t, 0, none⟩) seg (.slice A n c)).heap.size (appW w (some ⟨t, 0, none⟩) seg (.slice A n c)) W) => And.intro ((hW.cell (p := ⟨w.heap.size, 0, none⟩) (by rw [appW_size]; simp only; omega)).trans k0) (And.intro ((hW.cell (p := ⟨w.heap.size + 1, 0, none⟩) (by rw [appW_size]; simp only; omega)).trans k1) ((hW.cell (p := ⟨w.heap.size + 1 + 1, 0, none⟩) (by rw [appW_size]; simp only; omega)).trans k2)))
  have hmf : ∀ (fn : Fn) (first cap : Array Value) (w : World), (Instr.makeFunc fn first cap).run Tryz.prog w = .ok (.func fn first cap) w := fun _ _ _ _ => rfl
  have hltT := hT.ltT
  have HCH : Hid (∀ W f, Below w.heap.size w W → w.heap.size + 1 + 1 < W.heap.size → W.cell? ⟨w.heap.size, 0, none⟩ = some (.pointer (some ⟨t, 0, none⟩)) → Calls Tryz.prog 59 #[.pointer (some ⟨t, 0, none⟩), .nilIface, f] W fun e w' => e = .returned (.int .i64 8) ∧ (TapeAt w' t { T with down := true } ∧ Touch (· = t) w w') ∧ w'.cell? ⟨w.heap.size, 0, none⟩ = some (.pointer (some ⟨t, 0, none⟩))) := fun W f hW hsz k0 => (change_dead (hG.below hW) (hT.below hW) hs (fun e => hg (mem_blocks.2 (.inl e)))).mono fun e w' ⟨h1, h2, h3⟩ => ⟨h1, ⟨h2, Touch.ahead hW h3⟩, (World.cell?_of_block (a := ⟨w.heap.size, 0, none⟩) (h3.block w.heap.size (by omega) (by omega))).trans k0⟩
  clear hT hF hG k0 k1 k2 hE0 hs hg
  go_enter Tryz.func22, Tryz.ntmps22
  go_wp2_with fail
  refine (HR.out).mono ?_
  rintro e w3 ⟨v3, rfl, h3⟩
  obtain ⟨rfl, hb3⟩ := h3.nil
  have HB3 := Lib.hid (HB0.out.trans (hb3.mono HB0.out.size))
  obtain ⟨k0, k1, k2⟩ := HCL.out _ hb3
  have HB3' := Lib.hid hb3
  have HFI := Lib.hid (HF.out _ HB3.out)
  clear h3 hb3
  go_wp2_with fail
  refine (HFI.out).mono ?_
  rintro e w4 ⟨v4, rfl, h4⟩
  obtain ⟨rfl, hb4⟩ := h4.nil
  have HB4 := Lib.hid (HB3.out.trans (hb4.mono HB3.out.size))
  have HC4 : Hid (∀ W, Below w4.heap.size w4 W → W.cell? ⟨w.heap.size, 0, none⟩ = some (.pointer (some ⟨t, 0, none⟩)) ∧ W.cell? ⟨w.heap.size + 1, 0, none⟩ = some (.int .i64 seg) ∧ W.cell? ⟨w.heap.size + 1 + 1, 0, none⟩ = some (.slice A n c)) := fun W hW => HCL.out W ((HB3'.out.trans (hb4.mono HB3'.out.size)).trans (hW.mono (HB3'.out.trans (hb4.mono HB3'.out.size)).size))
  have hsz4 : w.heap.size + 1 + 1 < w4.heap.size := by
    have h1 := appW_size w (some ⟨t, 0, none⟩) seg (.slice A n c)
    have h2 := HB3'.out.size
    have h3 := hb4.size
    omega
  have hc4 := (HC4.out _ (Below.refl _ _)).1
  have HSZ := Lib.hid hsz4
  clear h4 hb4 hsz4
  go_wp2_with fail
  go_region_held3 (fun W => W.cell? ⟨w.heap.size, 0, none⟩ = some (.pointer (some ⟨t, 0, none⟩))) ((first | go_keep | assumption)) (first | (go_at_call 60; refine (in_nil _ _).mono ?_; rintro e w5 ⟨rfl, rfl⟩) | (go_at_call 59; refine (HCH.out _ _ (below_drew HB4.out) HSZ.out (HC4.out _ (below_drew (Below.refl _ _))).1).mono ?_; rintro e w6 ⟨rfl, hd6, hd7⟩))
  all_goals
    go_wp2
    go_ret
    exact ⟨rfl, by assumption⟩
set_option maxRecDepth 100000 in
set_option maxHeartbeats 2000000 in
theorem append_ok {w : World} {t : Nat} {T : Tp} {seg : Int} {A : Option Addr} {n c : Nat} (hG : Glob w) (hT : TapeAt w t T) (hE0 : readyE T seg = 0)
    (hF : ∀ W, Below w.heap.size w W → Calls Tryz.prog 58 #[.pointer (some ⟨t, 0, none⟩), .int .i64 seg, .slice A n c] W fun e w' => ∃ v, e = .returned v ∧ ErrP 0 W v w') (hn : nameB seg = true) (hf : T.L.length < 64 ∨ ∃ e ∈ T.L, e.n = seg) {ls : List (List UInt8)} (hu : used T.L + ls.flatten.length ≤ 1048576) (hs : spent T = false) (hg : 0 ∉ T.blocks t) (hP : ∀ w', Touch (fun k => k ∈ T.blocks t) w w' → PIs w' (.slice A n c) ls) :
    Calls Tryz.prog 22 #[.pointer (some ⟨t, 0, none⟩), .int .i64 seg, .slice A n c] w fun e w' => e = .returned (.int .i64 0) ∧ AppP w t T seg ls.flatten w' := by
  have HR := Lib.hid (ready_any (hT.below (appW_below w (some ⟨t, 0, none⟩) seg (.slice A n c))) seg)
  rw [hE0] at HR
  have HF := Lib.hid hF
  have HG := Lib.hid (hG.below (appW_below w (some ⟨t, 0, none⟩) seg (.slice A n c)))
  have HB0 := Lib.hid (appW_below w (some ⟨t, 0, none⟩) seg (.slice A n c))
  obtain ⟨k0, k1, k2⟩ := appW_cells w (some ⟨t, 0, none⟩) seg (.slice A n c)
  have HCL := Lib.hid (fun W (hW : Below (appW w (some ⟨t, 0, none⟩) seg (.slice A n c)).heap.size (appW w (some ⟨t, 0, none⟩) seg (.slice A n c)) W) => And.intro ((hW.cell (p := ⟨w.heap.size, 0, none⟩) (by rw [appW_size]; simp only; omega)).trans k0) (And.intro ((hW.cell (p := ⟨w.heap.size + 1, 0, none⟩) (by rw [appW_size]; simp only; omega)).trans k1) ((hW.cell (p := ⟨w.heap.size + 1 + 1, 0, none⟩) (by rw [appW_size]; simp only; omega)).trans k2)))
  have hmf : ∀ (fn : Fn) (first cap : Array Value) (w : World), (Instr.makeFunc fn first cap).run Tryz.prog w = .ok (.func fn first cap) w := fun _ _ _ _ => rfl
  have hlt := hT.lt
  have HCH : Hid (∀ W, Below w.heap.size w W → w.heap.size + 1 + 1 < W.heap.size → W.cell? ⟨w.heap.size, 0, none⟩ = some (.pointer (some ⟨t, 0, none⟩)) → W.cell? ⟨w.heap.size + 1, 0, none⟩ = some (.int .i64 seg) → W.cell? ⟨w.heap.size + 1 + 1, 0, none⟩ = some (.slice A n c) →
      Calls Tryz.prog 59 #[.pointer (some ⟨t, 0, none⟩), .nilIface, .func (.func 61) #[] #[.pointer (some ⟨w.heap.size, 0, none⟩), .pointer (some ⟨w.heap.size + 1, 0, none⟩), .pointer (some ⟨w.heap.size + 1 + 1, 0, none⟩)]] W fun e w' => e = .returned (.int .i64 0) ∧ (AppP w t T seg ls.flatten w' ∧ w.heap.size < w'.heap.size ∧ w'.cell? ⟨w.heap.size, 0, none⟩ = some (.pointer (some ⟨t, 0, none⟩)))) := fun W hW hsz k0 k1 k2 => by
    obtain ⟨b1, b2, b3⟩ := burntW_at (hT.below hW)
    have hTW : Touch (fun k => k ∈ T.blocks t) w (burntW W t T) := Touch.ahead hW (b2.mono fun i _ hi => mem_blocks.2 (.inl hi))
    have hcell : ∀ k, w.heap.size ≤ k → k < W.heap.size → ∀ w', Touch (fun k => k ∈ (burnt T).blocks t) (burntW W t T) w' → w'.cell? ⟨k, 0, none⟩ = W.cell? ⟨k, 0, none⟩ := fun k hk hkW w' hw' => by
      have hnb : k ∉ T.blocks t := fun hh => by have := hlt k hh; omega
      refine (World.cell?_of_block (a := ⟨k, 0, none⟩) (hw'.block k (by rw [b3]; exact hkW) (by rw [burnt_blocks]; exact hnb))).trans (World.cell?_of_block (a := ⟨k, 0, none⟩) (b2.block k hkW (fun e => hnb (mem_blocks.2 (.inl e)))))
    have hgw : ∀ w', Touch (fun k => k ∈ T.blocks t) w w' → Glob w' := fun w' h => (World.cell?_of_block (a := ⟨0, 0, none⟩) (h.block _ hG.lt hg)).trans hG
    refine change_app (hG.below hW) (hT.below hW) hs (fun e => hg (mem_blocks.2 (.inl e))) (fun w' => AppP w t T seg ls.flatten w' ∧ w.heap.size < w'.heap.size ∧ w'.cell? ⟨w.heap.size, 0, none⟩ = some (.pointer (some ⟨t, 0, none⟩))) (fun W1 W2 h hb => ⟨h.1.below hb, Nat.lt_of_lt_of_le h.2.1 hb.size, (hb.cell (p := ⟨w.heap.size, 0, none⟩) h.2.1).trans h.2.2⟩) (fun W1 h => hgw _ h.1.touch) ?_
    refine (app_do b1 hn (by rw [burnt_L]; exact hf) (by rw [burnt_L]; exact hu) (fun w' hw' => (hcell _ (Nat.le_refl _) (by omega) w' hw').trans k0) (fun w' hw' => (hcell _ (by omega) (by omega) w' hw').trans k1) (fun w' hw' => (hcell _ (by omega) hsz w' hw').trans k2)
      (fun w' hw' => hP w' (hTW.trans hw' (fun i hi h => by rw [burnt_blocks] at h; exact h)))).mono ?_
    rintro e w' ⟨rfl, T', a1, a2, a3, a4, a5⟩
    refine ⟨rfl, ⟨T', a1, a2, by rw [a3, burnt_L], hTW.trans a4 (fun i hi h => by rw [burnt_blocks] at h; exact h), fun k hk => ?_⟩, by have := a4.size; omega, (hcell _ (Nat.le_refl _) (by omega) w' a4).trans k0⟩
    rcases a5 k hk with h | h
    · rw [burnt_blocks] at h; exact .inl h
    · exact .inr (by rw [b3] at h; have := hW.size; omega)
  clear hT hF hG k0 k1 k2 hE0 hs hg hP hu hf hn hlt
  go_enter Tryz.func22, Tryz.ntmps22
  go_wp2_with fail
  refine (HR.out).mono ?_
  rintro e w3 ⟨v3, rfl, h3⟩
  obtain ⟨rfl, hb3⟩ := h3.nil
  have HB3 := Lib.hid (HB0.out.trans (hb3.mono HB0.out.size))
  obtain ⟨k0, k1, k2⟩ := HCL.out _ hb3
  have HB3' := Lib.hid hb3
  have HFI := Lib.hid (HF.out _ HB3.out)
  clear h3 hb3
  go_wp2_with fail
  refine (HFI.out).mono ?_
  rintro e w4 ⟨v4, rfl, h4⟩
  obtain ⟨rfl, hb4⟩ := h4.nil
  have HB4 := Lib.hid (HB3.out.trans (hb4.mono HB3.out.size))
  have HC4 : Hid (∀ W, Below w4.heap.size w4 W → W.cell? ⟨w.heap.size, 0, none⟩ = some (.pointer (some ⟨t, 0, none⟩)) ∧ W.cell? ⟨w.heap.size + 1, 0, none⟩ = some (.int .i64 seg) ∧ W.cell? ⟨w.heap.size + 1 + 1, 0, none⟩ = some (.slice A n c)) := fun W hW => HCL.out W ((HB3'.out.trans (hb4.mono HB3'.out.size)).trans (hW.mono (HB3'.out.trans (hb4.mono HB3'.out.size)).size))
  have hsz4 : w.heap.size + 1 + 1 < w4.heap.size := by
    have h1 := appW_size w (some ⟨t, 0, none⟩) seg (.slice A n c)
    have h2 := HB3'.out.size
    have h3 := hb4.size
    omega
  have hc4 := (HC4.out _ (Below.refl _ _)).1
  have HSZ := Lib.hid hsz4
  clear h4 hb4 hsz4
  go_wp2_with fail
  go_region_held3 (fun W => W.cell? ⟨w.heap.size, 0, none⟩ = some (.pointer (some ⟨t, 0, none⟩))) ((first | go_keep | assumption)) (first | (go_at_call 60; refine (in_nil _ _).mono ?_; rintro e w5 ⟨rfl, rfl⟩) | (go_at_call 59; refine (HCH.out _ (below_drew HB4.out) HSZ.out (HC4.out _ (below_drew (Below.refl _ _))).1 (HC4.out _ (below_drew (Below.refl _ _))).2.1 (HC4.out _ (below_drew (Below.refl _ _))).2.2).mono ?_; rintro e w6 ⟨rfl, hd6, hd7, hd8⟩))
  all_goals
    go_wp2
    go_ret
    exact ⟨rfl, by assumption⟩
end Go.Proofs.YtnegnokielmgkaaGreatDoor
