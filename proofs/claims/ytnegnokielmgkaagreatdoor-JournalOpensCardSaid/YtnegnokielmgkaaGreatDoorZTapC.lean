/- The tape: Used, Free, Len, Synced, Down, Room, New, burn. -/
import Derived.Test.YtnegnokielmgkaaGreatDoorZTapA
import Derived.Deep.LoopGhost
import Derived.Deep.RegionHeld3
set_option linter.unusedSimpArgs false
set_option linter.unusedVariables false
set_option linter.unnecessarySimpa false
namespace Go.Proofs.YtnegnokielmgkaaGreatDoor
open Go.RowKit
open Go.Maps (Keyed)

theorem code_of {E : Int} {w w1 W : World} {v : Value} (hG : Glob w) (h : ErrP E w v w1) (hW : Below w1.heap.size w1 W) : Calls Tryz.prog 54 #[v] W fun e w' => e = .returned (.int .i64 E) ∧ Below W.heap.size W w' := by
  obtain ⟨c, h1, rfl, _, h4, h5, h6⟩ := h
  exact code_any (hG.below h6) h1 h4 (by omega) hW
def weights (L : List Ent) : List (Nat × Nat) := L.map fun e => (e.born, e.b.length)
theorem weights_sum (L : List Ent) : ((weights L).map (·.2)).sum = used L := by
  unfold weights used
  rw [List.map_map]
  rfl
theorem weights_born {w : World} {m c : Nat} {L : List Ent} (h : MapIs Tryz.prog 3 w m (L.map Ent.me) c) : ((weights L).map (·.1)).Nodup := by
  have := h.apart
  unfold weights
  rw [List.map_map] at this ⊢
  exact this

set_option maxRecDepth 100000 in
set_option maxHeartbeats 1000000 in
theorem used_any {w : World} {t : Nat} {T : Tp} (hT : TapeAt w t T) : Calls Tryz.prog 38 #[.pointer (some ⟨t, 0, none⟩)] w fun e w' => e = .returned (.int .i64 (used T.L : Nat)) ∧ Below w.heap.size w w' := by
  have hc : w.cell? ⟨t, 0, none⟩ = some (.map T.m) := cell_of hT.head 0
  have hU := hT.used
  have HT := Lib.hid hT
  have hm := hT.map
  cases hTm : T.m with
  | none =>
    rw [hTm] at hm hc
    have hL : T.L = [] := hm
    rw [hL]
    clear hm hL hU hTm hT HT
    go_enter Tryz.func38, Tryz.ntmps38
    go_wp2_with (at_range; refine wpList_nil_start _ rfl _ 75 rfl Tryz.underlying75 rfl ?_; intro w1 hit1 hb1 hz1)
    have HI := Lib.hid hit1
    have HB := Lib.hid hb1
    clear hit1 hb1 hz1
    go_wp2_with fail
    go_frame
    go_loopg [3] 0 (fun g n wr => n = .int .i64 0 ∧ IterAt wr w.heap.size none 0 #[] ∧ Below w.heap.size w wr)
    case atStart => exact ⟨rfl, HI.out, HB.out⟩
    case round =>
      obtain ⟨rfl, hi, hb⟩ := hrel
      have HI2 := Lib.hid hi
      have HB2 := Lib.hid hb
      clear hi hb
      go_wp2_with (at_next; refine wpList_nil_step _ rfl _ rfl HI2.out rfl ?_)
      go_wp2
      go_ret
      exact ⟨rfl, HB2.out⟩
  | some m =>
    rw [hTm] at hm hc
    have HM : Hid (MapIs Tryz.prog 3 w m (T.L.map Ent.me) T.clock) := hm
    have hml : m < w.heap.size := MapIs.lt (HM.out)
    clear hm hTm hT
    go_enter Tryz.func38, Tryz.ntmps38
    go_wp2_with (at_range; refine wpList_map_start _ rfl _ 75 rfl Tryz.underlying75 HM.out rfl ?_; intro w1 hit1 hb1 hz1)
    have HI := Lib.hid hit1
    have HB := Lib.hid hb1
    clear hit1 hb1 hz1
    go_wp2_with fail
    go_frame
    go_loopg [3] (unseen (weights T.L) #[]) (fun g n wr => ∃ seen, unseen (weights T.L) seen = g ∧ n = .int .i64 (seenSum (weights T.L) seen : Nat) ∧ IterAt wr w.heap.size (some m) T.clock seen ∧ Below w.heap.size w wr)
    case atStart => exact ⟨#[], rfl, by rw [seenSum_none]; rfl, HI.out, HB.out⟩
    case round =>
      obtain ⟨seen, hg, rfl, hi, hb⟩ := hrel
      have hle := seenSum_le (weights T.L) seen
      rw [weights_sum] at hle
      have HI2 := Lib.hid hi
      have HB2 := Lib.hid hb
      have HG := Lib.hid hg
      clear hi hb hg
      go_wp2_with (at_next; refine wpList_map_step _ rfl _ rfl (MapIs.keep HM.out (HB2.out.block _ hml)) HI2.out (by omega) rfl ?_ ?_)
      · intro hall
        have HS : Hid (seenSum (weights T.L) seen = used T.L) := by
          show _ = _
          rw [seenSum_all, weights_sum]
          intro x hx
          obtain ⟨e, he, rfl⟩ := List.mem_map.1 hx
          first | exact hall e.me (List.mem_map.2 ⟨e, he, rfl⟩) | exact hall e he
        clear hall
        go_wp2
        go_ret
        exact ⟨by rw [HS.out]; rfl, HB2.out⟩
      · intro e he hs w2 hit2 ht2 hz2 hen
        have hs : e.born ∉ seen := hs
        have hit2 : IterAt w2 w.heap.size (some m) T.clock (seen.push e.born) := hit2
        have hb2 : Below w.heap.size w w2 := HB2.out.trans (ht2.below (fun i hi => Nat.le_of_eq hi.symm) HB2.out.size)
        have hseg := (HT.out.segs e he).keep hb2.size (fun k hk => hb2.block k ((HT.out.segs e he).lt k hk))
        have hv := cell_of hseg.head 0
        obtain ⟨Av, cv, ev, _⟩ := hseg.row.form
        replace hv : w2.cell? ⟨e.sb, 0, none⟩ = some (.slice Av e.b.length cv) := by rw [hv, ← ev]; rfl
        have hp : seenSum (weights T.L) (seen.push e.born) = seenSum (weights T.L) seen + e.b.length ∧ unseen (weights T.L) (seen.push e.born) + 1 = unseen (weights T.L) seen := seenSum_push (weights T.L) seen (e.born, e.b.length) (weights_born HM.out) (List.mem_map.2 ⟨e, he, rfl⟩) hs
        have hle2 := seenSum_le (weights T.L) (seen.push e.born)
        rw [weights_sum] at hle2
        have HP := Lib.hid hp
        have HI3 := Lib.hid hit2
        have HB3 := Lib.hid hb2
        replace hen : (Instr.entry (.pointer (some ⟨w.heap.size, 0, none⟩))).run Tryz.prog w2 = .ok (.tuple #[.int .i64 e.n, .pointer (some ⟨e.sb, 0, none⟩)]) w2 := hen
        have q1 : (seenSum (weights T.L) seen : Int) + (e.b.length : Int) ≤ 1048576 := by have := hp.1; omega
        rw [show e.me.key = .int .i64 e.n from rfl, show e.me.val = .pointer (some ⟨e.sb, 0, none⟩) from rfl]
        clear hs hit2 ht2 hz2 hb2 hseg ev hp he hle2
        go_wp2
        go_roundg (unseen (weights T.L) (seen.push e.born))
        case measure => have := HP.out.2; have := HG.out; omega
        case rel => exact ⟨seen.push e.born, rfl, by rw [HP.out.1]; go_num, HI3.out, HB3.out⟩

set_option maxRecDepth 100000 in
set_option maxHeartbeats 1000000 in
theorem free_any {w : World} {t : Nat} {T : Tp} (hT : TapeAt w t T) : Calls Tryz.prog 79 #[.pointer (some ⟨t, 0, none⟩)] w fun e w' => e = .returned (.int .i64 (T.room - used T.L : Nat)) ∧ Below w.heap.size w w' := by
  have HU := Lib.hid (fun W (hW : Below w.heap.size w W) => (used_any (hT.below hW)).mono fun e w' (h : e = .returned (.int .i64 (used T.L : Nat)) ∧ Below W.heap.size W w') => (⟨h.1, hW.trans (h.2.mono hW.size)⟩ : e = .returned (.int .i64 (used T.L : Nat)) ∧ Below w.heap.size w w'))
  have hlt : t < w.heap.size := heap_lt hT.head
  have hc : w.cell? ⟨t, 1, none⟩ = some (.int .i64 (T.room : Int)) := cell_of hT.head 1
  have HC := Lib.hid (fun W (hW : Below w.heap.size w W) => (hW.cell (p := ⟨t, 1, none⟩) hlt).trans hc)
  have hU := hT.used
  have hR := hT.room
  have hw : IntKind.i64.wrap ((T.room : Int) - (used T.L : Int)) = (T.room : Int) - (used T.L : Int) := IntWalk.i64_in _ (by omega)
  by_cases hle : used T.L ≤ T.room
  · have q1 : ((T.room - used T.L : Nat) : Int) = (T.room : Int) - (used T.L : Int) := by omega
    rw [q1]
    have q2 : (0 : Int) ≤ (T.room : Int) - (used T.L : Int) := by omega
    clear hT q1 hlt
    go_enter Tryz.func79, Tryz.ntmps79
    go_wp2_with fail
    go_region_held3 (fun W => W.cell? ⟨t, 1, none⟩ = some (.int .i64 (T.room : Int))) ((first | go_keep | exact HC.out _ (by assumption))) (first | (go_at_call 38; refine (HU.out _ (by first | assumption | exact below_drew (Below.refl _ _))).mono ?_; rintro e w1 ⟨rfl, hb1⟩))
    all_goals
      go_wp2
      go_ret
      exact ⟨by first | rfl | (congr 2; omega), by assumption⟩
  · have q1 : ((T.room - used T.L : Nat) : Int) = 0 := by omega
    rw [q1]
    have q2 : (T.room : Int) - (used T.L : Int) < 0 := by omega
    clear hT q1 hlt
    go_enter Tryz.func79, Tryz.ntmps79
    go_wp2_with fail
    go_region_held3 (fun W => W.cell? ⟨t, 1, none⟩ = some (.int .i64 (T.room : Int))) ((first | go_keep | exact HC.out _ (by assumption))) (first | (go_at_call 38; refine (HU.out _ (by first | assumption | exact below_drew (Below.refl _ _))).mono ?_; rintro e w1 ⟨rfl, hb1⟩))
    all_goals
      go_wp2
      go_ret
      exact ⟨by first | rfl | (congr 2; omega), by assumption⟩
end Go.Proofs.YtnegnokielmgkaaGreatDoor
