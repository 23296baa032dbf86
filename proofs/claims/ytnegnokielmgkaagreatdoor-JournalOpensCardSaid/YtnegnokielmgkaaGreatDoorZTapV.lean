/- The tape: Trim. The tape: Trim, whole. -/
import Derived.Test.YtnegnokielmgkaaGreatDoorZTapK
import Derived.Deep.RegionHeld
set_option linter.unusedSimpArgs false
set_option linter.unusedVariables false
set_option linter.unnecessarySimpa false
namespace Go.Proofs.YtnegnokielmgkaaGreatDoor
open Go.RowKit

/-- What the inner function of Trim leaves. -/
structure Trimmed (w : World) (sb n s : Nat) (v : Value) (w' : World) : Prop where
  heap : w'.heap = ((w.setCell ⟨sb, 0, none⟩ v).setCell ⟨sb, 1, none⟩ (.int .i64 ((min s n : Nat) : Int))).heap
  os : w'.os = w.os
  tape : w'.tape = w.tape
  output : w'.output = w.output
set_option maxRecDepth 100000 in
set_option maxHeartbeats 2000000 in
theorem trim_do {w : World} {b0 b1 sb m cap s n : Nat} {A : Option Addr} (hA : A = none → m = 0 ∧ cap = 0) (hA2 : ∀ a, A = some a → ∃ g, a = ⟨g, 0, none⟩) (k0 : w.cell? ⟨b0, 0, none⟩ = some (.pointer (some ⟨sb, 0, none⟩))) (k1 : w.cell? ⟨b1, 0, none⟩ = some (.int .i64 (n : Int)))
    (d0 : b0 ≠ sb) (d1 : b1 ≠ sb) (h0 : w.cell? ⟨sb, 0, none⟩ = some (.slice A m cap)) (h1 : w.cell? ⟨sb, 1, none⟩ = some (.int .i64 (s : Int))) (f0 : w.frozen? ⟨sb, 0, none⟩ = false) (f1 : w.frozen? ⟨sb, 1, none⟩ = false) (hm : m ≤ cap) (hn : n ≤ m) :
    Calls Tryz.prog 77 #[.pointer (some ⟨b0, 0, none⟩), .pointer (some ⟨b1, 0, none⟩)] w fun e w' => e = .returned (.tuple #[]) ∧ Trimmed w sb n s (.slice A n cap) w' := by
  have g0 : ∀ v, (w.setCell ⟨sb, 0, none⟩ v).cell? ⟨b0, 0, none⟩ = some (.pointer (some ⟨sb, 0, none⟩)) := fun v => (World.cell?_of_block (a := ⟨b0, 0, none⟩) (Below.heap_setCell _ _ _ _ d0)).trans k0
  have g1 : ∀ v, (w.setCell ⟨sb, 0, none⟩ v).cell? ⟨b1, 0, none⟩ = some (.int .i64 (n : Int)) := fun v => (World.cell?_of_block (a := ⟨b1, 0, none⟩) (Below.heap_setCell _ _ _ _ d1)).trans k1
  have q1 : (0 : Int) ≤ (n : Int) := by omega
  have q2 : (n : Int) ≤ (cap : Int) := by omega
  have q3 : n ≤ cap := by omega
  have fin : ∀ W, W = ((w.setCell ⟨sb, 0, none⟩ (.slice A n cap)).setCell ⟨sb, 1, none⟩ (.int .i64 ((min s n : Nat) : Int))) → Trimmed w sb n s (.slice A n cap) W := fun W e => by subst e; exact ⟨rfl, rfl, rfl, rfl⟩
  have HF := Lib.hid fin
  have HMIN : Hid ((s ≤ n → ((min s n : Nat) : Int) = (s : Int)) ∧ (n < s → ((min s n : Nat) : Int) = (n : Int))) := ⟨fun h => by omega, fun h => by omega⟩
  clear fin hn
  by_cases hs : s ≤ n
  · have HE := Lib.hid (HMIN.out.1 hs)
    have t1 : ¬ (n : Int) < (s : Int) := by omega
    have t2 : (s : Int) ≤ (n : Int) := by omega
    cases A with
    | none =>
      obtain ⟨rfl, rfl⟩ := hA rfl
      obtain rfl : n = 0 := by omega
      obtain rfl : s = 0 := by omega
      clear hA hA2 HMIN
      go_enter Tryz.func77, Tryz.ntmps77
      go_wp2_with fail
      go_region
      go_wp2_with fail
      go_region
      all_goals
        go_wp2
        go_end0
        exact ⟨rfl, ⟨rfl, rfl, rfl, rfl⟩⟩
    | some a =>
      obtain ⟨g, rfl⟩ := hA2 a rfl
      clear hA hA2 HMIN
      go_enter Tryz.func77, Tryz.ntmps77
      go_wp2_with fail
      go_region
      go_wp2_with fail
      go_region
      all_goals
        go_wp2
        go_end0
        exact ⟨rfl, ⟨by rw [HE.out]; rfl, rfl, rfl, rfl⟩⟩
  · have HE := Lib.hid (HMIN.out.2 (by omega))
    have t1 : (n : Int) < (s : Int) := by omega
    cases A with
    | none =>
      obtain ⟨rfl, rfl⟩ := hA rfl
      obtain rfl : n = 0 := by omega
      have t2 : (0 : Int) < (s : Int) := by omega
      clear hA hA2 HMIN
      go_enter Tryz.func77, Tryz.ntmps77
      go_wp2_with fail
      go_region
      go_wp2_with fail
      go_region
      all_goals
        go_wp2
        go_end0
        exact ⟨rfl, ⟨by rw [HE.out]; rfl, rfl, rfl, rfl⟩⟩
    | some a =>
      obtain ⟨g, rfl⟩ := hA2 a rfl
      clear hA hA2 HMIN
      go_enter Tryz.func77, Tryz.ntmps77
      go_wp2_with fail
      go_region
      go_wp2_with fail
      go_region
      all_goals
        go_wp2
        go_end0
        exact ⟨rfl, ⟨by rw [HE.out]; rfl, rfl, rfl, rfl⟩⟩
end Go.Proofs.YtnegnokielmgkaaGreatDoor

namespace Go.Proofs.YtnegnokielmgkaaGreatDoor
open Go.RowKit

theorem row_upto {w : World} {v : Value} {b : List UInt8} (h : RowIs w 1 v b.length (bc b)) {n : Nat} (hn : n ≤ b.length) : ∃ (A : Option Addr) (cap : Nat), v = .slice A b.length cap ∧ (A = none → b.length = 0 ∧ cap = 0) ∧ (∀ a, A = some a → ∃ g, a = ⟨g, 0, none⟩) ∧ b.length ≤ cap ∧ RowIs w 1 (.slice A n cap) (b.take n).length (bc (b.take n)) ∧ (Value.slice A n cap).ownBlock = v.ownBlock := by
  have hl : (b.take n).length = n := by rw [List.length_take]; omega
  rcases h with ⟨rfl, h1, h2⟩ | ⟨g, cap, rfl, h1, h2, h3⟩
  · have hb : b = [] := List.eq_nil_of_length_eq_zero h1
    subst hb
    obtain rfl : n = 0 := by simpa using hn
    exact ⟨none, 0, rfl, (fun _ => ⟨rfl, rfl⟩), (fun a h => by cases h), Nat.le_refl _, RowIs.nil _ _, rfl⟩
  · refine ⟨_, cap, rfl, (fun h => by cases h), (fun a h => ⟨g, (Option.some.inj h).symm⟩), h2, .inr ⟨g, cap, by rw [hl], by rw [bc_length]; omega, by omega, ⟨h3.lt, by rw [bc_length]; omega, h3.max, fun j u hu => ?_, h3.there⟩⟩, rfl⟩
    obtain ⟨x, hx, rfl⟩ := bc_at hu
    rw [List.getElem?_take] at hx
    split at hx
    · exact h3.holds j _ (bc_some hx)
    · cases hx
/-- What a trim leaves. -/
def TrimP (w : World) (t : Nat) (T : Tp) (j : Nat) (e : Ent) (n : Nat) (w' : World) : Prop := ∃ v', TapeAt w' t { burnt T with L := T.L.set j { e with v := v', b := e.b.take n, s := min e.s n } } ∧ v'.ownBlock = e.v.ownBlock ∧ Touch (fun k => k ∈ T.blocks t) w w'
set_option maxRecDepth 100000 in
set_option maxHeartbeats 2000000 in
theorem trim_ok {w : World} {t : Nat} {T : Tp} (hG : Glob w) (hT : TapeAt w t T) {seg : Int} (hE : readyE T seg = 0) {j : Nat} {e : Ent} (hj : T.L[j]? = some e) (he : e.n = seg) {n : Nat} (hn : n ≤ e.b.length) (hs : spent T = false) (hg : 0 ∉ T.blocks t) :
    Calls Tryz.prog 45 #[.pointer (some ⟨t, 0, none⟩), .int .i64 seg, .int .i64 (n : Int)] w fun x w' => x = .returned (.int .i64 0) ∧ TrimP w t T j e n w' := by
  have hB0 := below_new (w := w) (.cells #[.int .i64 (n : Int)] 3)
  have HO := Lib.hid (open_hit (hT.below hB0) hE hj he)
  have HB0 := Lib.hid hB0
  have hk0 : (w.alloc (.cells #[.int .i64 (n : Int)] 3)).cell? ⟨w.heap.size, 0, none⟩ = some (.int .i64 (n : Int)) := cell_of (alloc_at w _) 0
  have HK0 := Lib.hid (fun W (hW : Below (w.alloc (.cells #[.int .i64 (n : Int)] 3)).heap.size (w.alloc (.cells #[.int .i64 (n : Int)] 3)) W) => (hW.cell (p := ⟨w.heap.size, 0, none⟩) (by rw [asz]; exact Nat.lt_succ_self _)).trans hk0)
  have hmf : ∀ (fn : Fn) (first cap : Array Value) (w : World), (Instr.makeFunc fn first cap).run Tryz.prog w = .ok (.func fn first cap) w := fun _ _ _ _ => rfl
  have hse := hT.segs e (List.mem_of_getElem? hj)
  have hel := heap_lt hse.head
  obtain ⟨Ae, ce, eve, hA0, hA1, hce, -, -⟩ := row_upto hse.row hn
  have hcb : w.cell? ⟨e.sb, 0, none⟩ = some (.slice Ae e.b.length ce) := by rw [cell_of hse.head 0, ← eve]; rfl
  have HCB := Lib.hid (fun W (hW : Below w.heap.size w W) => (hW.cell (p := ⟨e.sb, 0, none⟩) hel).trans hcb)
  have hlen : e.b.length ≤ 1048576 := Nat.le_trans (used_mem (List.mem_of_getElem? hj)) hT.used
  have HUP := Lib.hid (fun W => upto_ok (w := W) (most := (e.b.length : Int)) (n := (n : Int)) (by omega) (by omega))
  have HCH : Hid (∀ W b, Below w.heap.size w W → w.heap.size < b → b < W.heap.size → W.cell? ⟨b, 0, none⟩ = some (.pointer (some ⟨e.sb, 0, none⟩)) → W.cell? ⟨w.heap.size, 0, none⟩ = some (.int .i64 (n : Int)) →
      Calls Tryz.prog 59 #[.pointer (some ⟨t, 0, none⟩), .nilIface, .func (.func 77) #[] #[.pointer (some ⟨b, 0, none⟩), .pointer (some ⟨w.heap.size, 0, none⟩)]] W fun x w' => x = .returned (.int .i64 0) ∧ TrimP w t T j e n w') := fun W b hW hb1 hb2 kb kn => by
    obtain ⟨b1, b2, b3⟩ := burntW_at (hT.below hW)
    have hTW : Touch (fun k => k ∈ T.blocks t) w (burntW W t T) := Touch.ahead hW (b2.mono fun i _ hi => mem_blocks.2 (.inl hi))
    have hbt : b ≠ t := fun h => by have := hT.ltT; omega
    have hbt2 : w.heap.size ≠ t := fun h => by have := hT.ltT; omega
    have hgw : ∀ w', Touch (fun k => k ∈ T.blocks t) w w' → Glob w' := fun w' h => (World.cell?_of_block (a := ⟨0, 0, none⟩) (h.block _ hG.lt hg)).trans hG
    refine change_trim (hG.below hW) (hT.below hW) hs (fun e => hg (mem_blocks.2 (.inl e))) (fun w' => TrimP w t T j e n w') (fun W1 W2 ⟨v', h1, h2, h3⟩ hb => ⟨v', h1.below hb, h2, h3.after hb⟩) (fun W1 ⟨v', _, _, h⟩ => hgw _ h) ?_
    have hj' : (burnt T).L[j]? = some e := by rw [burnt_L]; exact hj
    have hsg := b1.segs e (List.mem_of_getElem? hj')
    obtain ⟨A, cap, ev, r0, r1, r2, r3, r4⟩ := row_upto hsg.row hn
    have h0 := cell_of hsg.head 0
    replace h0 : (burntW W t T).cell? ⟨e.sb, 0, none⟩ = some (.slice A e.b.length cap) := by rw [h0, ← ev]; rfl
    refine (trim_do (s := e.s) r0 r1 ((World.cell?_of_block (a := ⟨b, 0, none⟩) (b2.block b hb2 hbt)).trans kb) ((World.cell?_of_block (a := ⟨w.heap.size, 0, none⟩) (b2.block w.heap.size (by omega) hbt2)).trans kn) (by omega) (by omega) h0 (cell_of hsg.head 1) (free0 hsg.head 0) (free0 hsg.head 1) r2 hn).mono ?_
    rintro x w' ⟨rfl, h4⟩
    have hz : w'.heap.size = (burntW W t T).heap.size := by rw [h4.heap, setCell_size, setCell_size]
    have hk : ∀ k, k ≠ e.sb → w'.heap[k]? = (burntW W t T).heap[k]? := fun k hk => by rw [h4.heap]; exact (Below.heap_setCell _ _ _ _ hk).trans (Below.heap_setCell _ _ _ _ hk)
    have hh : w'.heap[e.sb]? = some (.cells #[.slice A n cap, .int .i64 ((min e.s n : Nat) : Int)] 89 (0, 0)) := by
      rw [h4.heap]
      exact set_at (set_at hsg.head 0 (.slice A n cap)) 1 _
    refine ⟨rfl, .slice A n cap, ?_, r4, ?_⟩
    · have h9 := b1.seg hj' (w' := w') (v := .slice A n cap) (b := e.b.take n) (s := min e.s n) (by omega) (fun k _ h1 _ => hk k h1) hh (r3.keep (by omega) fun g hg' => hk g fun h => b1.sep.own e (List.mem_of_getElem? hj') (by rw [← r4, hg', h])) (.inl r4) (by rw [List.length_take]; omega) (by have := b1.used; rw [List.length_take]; omega)
      rw [burnt_L] at h9
      exact h9
    · exact ⟨h4.os.trans hTW.os, h4.tape.trans hTW.tape, h4.output.trans hTW.output, by have := hTW.size; omega, fun k hk1 hk2 => (hk k (fun h => hk2 (mem_blocks.2 (.inr (.inr ⟨e, List.mem_of_getElem? hj, by rw [h]; exact List.mem_cons_self ..⟩))))).trans (hTW.block k hk1 hk2)⟩
  clear hG hT hE hj he hs hg hk0 hn hse hA0 hA1 hcb eve
  go_enter Tryz.func45, Tryz.ntmps45
  go_wp2_with fail
  refine (HO.out).mono ?_
  rintro x w1 ⟨rfl, hb1⟩
  have HB1 := Lib.hid (HB0.out.trans (hb1.mono HB0.out.size))
  have hA := below_new (w := w1) (.cells #[.pointer (some ⟨e.sb, 0, none⟩)] 86)
  have kn := HK0.out _ (hb1.trans (hA.mono hb1.size))
  have ks : (w1.alloc (.cells #[.pointer (some ⟨e.sb, 0, none⟩)] 86)).cell? ⟨w1.heap.size, 0, none⟩ = some (.pointer (some ⟨e.sb, 0, none⟩)) := cell_of (alloc_at w1 _) 0
  have kc := HCB.out _ (HB1.out.trans (hA.mono HB1.out.size))
  have hsz1 : w.heap.size < w1.heap.size := by have := hb1.size; rw [asz] at this; omega
  have HIN := Lib.hid (fun W => in_nil ⟨#[116, 114, 105, 109]⟩ W)
  have HC := Lib.hid (fun W (hW : Below (w1.alloc (.cells #[.pointer (some ⟨e.sb, 0, none⟩)] 86)).heap.size (w1.alloc (.cells #[.pointer (some ⟨e.sb, 0, none⟩)] 86)) W) => HCH.out W w1.heap.size ((HB1.out.trans (hA.mono HB1.out.size)).trans (hW.mono (by rw [asz]; have := HB1.out.size; omega))) hsz1 (by have := hW.size; rw [asz] at this; omega) ((hW.cell (p := ⟨w1.heap.size, 0, none⟩) (by rw [asz]; exact Nat.lt_succ_self _)).trans ks) ((hW.cell (p := ⟨w.heap.size, 0, none⟩) (by rw [asz]; exact Nat.lt_succ_of_lt hsz1)).trans kn))
  clear hb1 hA
  go_wp2_with fail
  go_region_held (fun W => W.cell? ⟨w1.heap.size, 0, none⟩ = some (.pointer (some ⟨e.sb, 0, none⟩)) ∧ W.cell? ⟨w.heap.size, 0, none⟩ = some (.int .i64 (n : Int)) ∧ W.cell? ⟨e.sb, 0, none⟩ = some (.slice Ae e.b.length ce)) ((first | go_keep | exact ⟨ks, kn, kc⟩ | assumption | exact ⟨by assumption, by assumption, by assumption⟩)) (first | (go_at_call 74; refine (HUP.out _).mono ?_; rintro x w5 ⟨rfl, rfl⟩))
  all_goals
    go_wp2_with fail
    refine (HIN.out _).mono ?_
    rintro x w6 ⟨rfl, rfl⟩
    go_wp2_with fail
    refine (HC.out _ (by first | exact below_drew (Below.refl _ _) | exact below_drewN (Below.refl _ _) _ | exact Below.refl _ _)).mono ?_
    rintro x w7 ⟨rfl, h7⟩
    have H7 := Lib.hid h7
    clear h7
    go_wp2
    go_ret
    exact ⟨rfl, H7.out⟩
end Go.Proofs.YtnegnokielmgkaaGreatDoor
