/- The law's near: of any numbers, packets that there are. NetCarries: what a call leaves. -/
import Derived.Test.YtfddlhcdlgdofaaGreatDoorZNetR
set_option linter.unusedSimpArgs false
set_option linter.unusedVariables false
set_option linter.unnecessarySimpa false
namespace Go.Proofs.YtfddlhcdlgdofaaGreatDoor
open Go.RowKit Go.Shelf
abbrev zeroN : Array Value := #[.int .i64 0, .bool false, .int .i64 0, .int .i64 0, .int .i64 0, .int .i64 0, .int .i64 0, .int .i64 0, .int .i64 0, .int .i64 0, .int .i64 0, .slice none 0 0, .slice none 0 0, .int .i64 0, .int .i64 0]
set_option maxRecDepth 100000 in
set_option maxHeartbeats 4000000 in
theorem near_any {w : World} (o : OpN) (n : Nat) (hn : n ≤ 1024) (hi : -9223372036854775808 ≤ o.i ∧ o.i ≤ 9223372036854775807) (hk : -9223372036854775808 ≤ o.k ∧ o.k ≤ 9223372036854775807) (tA oA : Option Addr) (tc oc : Nat) : Calls Tryz.prog 15 #[.agg (cellN o tA tc oA oc), .int .i64 n] w fun e w' => ∃ i k, e = .returned (.agg (cellN { o with i := i, k := k } tA tc oA oc)) ∧ (-9223372036854775808 ≤ i ∧ i ≤ 9223372036854775807) ∧ (-9223372036854775808 ≤ k ∧ k ≤ 9223372036854775807) ∧ Below w.heap.size w w' := by
  obtain ⟨kd, nr, m, i, k⟩ := o
  simp only at hi hk ⊢
  have hB : ∀ (i k : Int) (z : Array Value), Below w.heap.size w ((w.alloc (.cells (cellN ⟨kd, nr, m, i, k⟩ tA tc oA oc) 39)).alloc (.cells z 39)) := fun i k z => (below_new _).trans ((below_new _).mono (by rw [asz]; exact Nat.le_succ _))
  by_cases hq : nr = true ∧ n ≠ 0 ∧ kd ≤ 8
  · obtain ⟨rfl, hn0, h8⟩ := hq
    have hnb : ((n : Int) == 0) = false := by simp; omega
    have h8b : decide (8 < kd) = false := by simp; omega
    obtain ⟨a, ha, hia⟩ := tmod_cases i n (by omega)
    obtain ⟨c, hc, hkc⟩ := tmod_cases k n (by omega)
    obtain ⟨x, hx⟩ : ∃ x, i.tmod n = x := ⟨_, rfl⟩
    obtain ⟨y, hy⟩ : ∃ y, k.tmod n = y := ⟨_, rfl⟩
    rw [hx] at hia
    rw [hy] at hkc
    have hwx : IntKind.i64.wrap (-x) = -x := IntWalk.i64_in _ (by omega)
    have hwy : IntKind.i64.wrap (-y) = -y := IntWalk.i64_in _ (by omega)
    have HXR := Lib.hid (show -1024 ≤ x ∧ x ≤ 1024 by omega)
    have HYR := Lib.hid (show -1024 ≤ y ∧ y ≤ 1024 by omega)
    have HB := Lib.hid hB
    have HK := Lib.hid hk
    clear hB hia hkc ha hc hi hk h8 hn
    go_enter Tryz.func15, Tryz.ntmps15
    go_upto_if 25 with fail
    go_cut [] (fun wx => ∃ i', (-1024 ≤ i' ∧ i' ≤ 1024) ∧ wx = (w.alloc (.cells (cellN ⟨kd, true, m, i', k⟩ tA tc oA oc) 39)).alloc (.cells zeroN 39))
    case first =>
      by_cases hs : x < 0
      · go_wp2_with fail
        go_meet
        exact ⟨-x, by have := HXR.out; omega, rfl⟩
      · go_wp2_with fail
        go_meet
        exact ⟨x, HXR.out, rfl⟩
    case rest =>
    obtain ⟨i', hi', rfl⟩ := hcut
    have HI := Lib.hid hi'
    clear hi' hx
    go_upto_if 32 with fail
    go_cut [] (fun wx => ∃ k', (-9223372036854775808 ≤ k' ∧ k' ≤ 9223372036854775807) ∧ wx = (w.alloc (.cells (cellN ⟨kd, true, m, i', k'⟩ tA tc oA oc) 39)).alloc (.cells zeroN 39))
    case first =>
      by_cases h6 : kd = 6
      · have h6b : (kd == 6) = true := by rw [h6]; rfl
        have HK6 := Lib.hid h6
        clear h6
        by_cases hs : y < 0
        · go_wp2_with fail
          go_meet
          exact ⟨-y, by have := HYR.out; omega, rfl⟩
        · go_wp2_with fail
          go_meet
          exact ⟨y, by have := HYR.out; omega, rfl⟩
      · have h6b : (kd == 6) = false := by rw [beq_eq_false_iff_ne]; exact h6
        go_wp2_with fail
        go_meet
        exact ⟨k, HK.out, rfl⟩
    case rest =>
    obtain ⟨k', hk', rfl⟩ := hcut
    have HK2 := Lib.hid hk'
    clear hk' hy
    go_wp2_with fail
    refine bodyPost_ret (v := .agg (cellN ⟨kd, true, m, i', k'⟩ tA tc oA oc)) (by simp [results, Tryz.results15, go_sem]) rfl ?_
    exact ⟨i', k', rfl, by have := HI.out; omega, HK2.out, HB.out i' k' _⟩
  · have hend : nr = false ∨ (nr = true ∧ n = 0) ∨ (nr = true ∧ n ≠ 0 ∧ 8 < kd) := by
      cases nr with
      | false => exact .inl rfl
      | true =>
        by_cases h0 : n = 0
        · exact .inr (.inl ⟨rfl, h0⟩)
        · exact .inr (.inr ⟨rfl, h0, by
            by_cases h8 : 8 < kd
            · exact h8
            · exact absurd ⟨rfl, h0, by omega⟩ hq⟩)
    have HB := Lib.hid hB
    have HI := Lib.hid (And.intro hi hk)
    clear hq hB hi hk hn
    rcases hend with rfl | ⟨rfl, rfl⟩ | ⟨rfl, hn0, h8⟩
    · go_enter Tryz.func15, Tryz.ntmps15
      go_wp2_with fail
      refine bodyPost_ret (v := .agg (cellN ⟨kd, false, m, i, k⟩ tA tc oA oc)) (by simp [results, Tryz.results15, go_sem]) rfl ?_
      exact ⟨i, k, rfl, HI.out.1, HI.out.2, HB.out i k _⟩
    · go_enter Tryz.func15, Tryz.ntmps15
      go_wp2_with fail
      refine bodyPost_ret (v := .agg (cellN ⟨kd, true, m, i, k⟩ tA tc oA oc)) (by simp [results, Tryz.results15, go_sem]) rfl ?_
      exact ⟨i, k, rfl, HI.out.1, HI.out.2, HB.out i k _⟩
    · have hnb : ((n : Int) == 0) = false := by simp; omega
      have h8b : decide (8 < kd) = true := by simp; omega
      go_enter Tryz.func15, Tryz.ntmps15
      go_wp2_with fail
      refine bodyPost_ret (v := .agg (cellN ⟨kd, true, m, i, k⟩ tA tc oA oc)) (by simp [results, Tryz.results15, go_sem]) rfl ?_
      exact ⟨i, k, rfl, HI.out.1, HI.out.2, HB.out i k _⟩
end Go.Proofs.YtfddlhcdlgdofaaGreatDoor

namespace Go.Proofs.YtfddlhcdlgdofaaGreatDoor
open Go.RowKit Go.Shelf
/-- What a round of NetCarries knows. -/
def CarI (w wr : World) (b : Nat) (i : Nat) (sv : Value) (S : List Ot) (F : Nat → Prop) : Prop := ∃ P, OrdM w wr S F sv ∧ NC w wr b 100 P [] F ∧ QOk (S.map (·.m)) P ∧ P.length ≤ i ∧ S.length ≤ i
section
variable {w W W' : World} {b i : Nat} {sv : Value} {S : List Ot} {F : Nat → Prop} {P P' : List P3} {L : List MsgV}
theorem CarI.step (hS : OrdM w W S F sv) (hn : NCP w W b 100 P' [] F W') (hq : QOk (S.map (·.m)) P') (hl : P'.length ≤ i + 1) (hs : S.length ≤ i) : CarI w W' b (i + 1) sv S F :=
  ⟨P', hS.call hn.2, hn.1, hq, hl, Nat.le_succ_of_le hs⟩
theorem CarI.stay (hS : OrdM w W S F sv) (hn : NC w W b 100 P [] F) (hb : Below W.heap.size W W') (hq : QOk (S.map (·.m)) P) (hl : P.length ≤ i) (hs : S.length ≤ i) : CarI w W' b (i + 1) sv S F :=
  CarI.step hS (hn.pbelow hb) hq (Nat.le_succ_of_le hl) hs
theorem QOk.ite {c : Prop} [Decidable c] (h1 : QOk L P) (h2 : QOk L P') : QOk L (if c then P else P') := by split <;> assumption
theorem len_ite {c : Prop} [Decidable c] {n : Nat} (h1 : P.length ≤ n) (h2 : P'.length ≤ n) : (if c then P else P').length ≤ n := by split <;> assumption
theorem dupL_len (P : List P3) (j : Nat) : (dupL P j).length ≤ P.length + 1 := by
  unfold dupL
  split
  · simp
  · omega
theorem moveL_len (P : List P3) (j k : Nat) : (moveL P j k).length ≤ P.length := by
  unfold moveL
  split
  · rename_i p hp
    have := (List.getElem?_eq_some_iff.1 hp).1
    rw [List.length_insertIdx, List.length_eraseIdx]
    split <;> split <;> omega
  · omega
theorem holdL_len (P : List P3) (j : Nat) (k : Int) : (holdL P j k).length = P.length := by
  unfold holdL
  split <;> simp
theorem spoilL_len (P : List P3) (j k : Nat) : (spoilL P j k).length = P.length := by
  unfold spoilL
  split <;> simp
theorem erase_len (P : List P3) (j : Nat) : (P.eraseIdx j).length ≤ P.length := by
  rw [List.length_eraseIdx]
  split <;> omega
def zMsg : MsgV := ⟨0, 0, 0, 0, 0, 0, 0, 0, 0, [], []⟩
theorem zMsg_is (W : World) : MsgIs W (.agg (cellM zMsg none 0 none 0)) zMsg := ⟨none, 0, none, 0, rfl, NumsAt.nil _, OpsAt.nil _, fun o h => by cases h⟩
theorem zeroM_eq : zeroM = .agg (cellM zMsg none 0 none 0) := rfl
/-- Decode, told alike whether there is a message or none. -/
theorem decode_u {w : World} {v : Value} {bs : List UInt8} (hG : Glob w) (hM : Mov w) (h : BIs w v bs) : Calls Tryz.prog 20 #[v] w fun e w' => ∃ m0 tA tc oA oc, e = .returned (.tuple #[.agg (cellM m0 tA tc oA oc), .int .i64 (if (decM bs).isSome = true then 0 else 6)]) ∧ MsgIs w' (.agg (cellM m0 tA tc oA oc)) m0 ∧ Below w.heap.size w w' := by
  refine (Decode_any hG hM h).mono ?_
  rintro e w' ⟨hb, ⟨h1, rfl⟩ | ⟨m, v', h1, rfl, h2⟩⟩
  · rw [h1]
    exact ⟨zMsg, none, 0, none, 0, rfl, zMsg_is _, hb⟩
  · obtain ⟨tA, tc, oA, oc, rfl, h3⟩ := h2
    rw [h1]
    exact ⟨m, tA, tc, oA, oc, rfl, ⟨tA, tc, oA, oc, rfl, h3⟩, hb⟩
theorem bytesL_get {i : Int} {m : MsgV} (h : decM (bytesL P i) = some m) : ∃ (j : Nat) (p : P3), i = (j : Int) ∧ P[j]? = some p ∧ j < P.length ∧ inP P i ∧ bytesL P i = p.1 := by
  by_cases hi : inP P i
  · obtain ⟨j, p, rfl, hj, hl⟩ := inP_get hi
    refine ⟨j, p, rfl, hj, hl, hi, ?_⟩
    unfold bytesL
    rw [if_pos hi, Int.toNat_natCast, hj]
    rfl
  · unfold bytesL at h
    rw [if_neg hi] at h
    have := (decM_only h).1
    have h2 := encM_few (decM_only h).2.1 (decM_only h).2.2
    exact (h2.1 this.symm).elim
/-- Deliver, whatever its number: what comes was sent, and its packet was whole. -/
theorem deliver_u {w0 w : World} {P : List P3} (hG : Glob w0) (hM : Mov w0) (h : NC w0 w b 100 P [] F) (hq : QOk L P) (i : Int) : Calls Tryz.prog 22 #[.pointer (some ⟨b, 0, none⟩), .int .i64 i] w fun e w' => ∃ P' m0 tA tc oA oc c, e = .returned (.tuple #[.agg (cellM m0 tA tc oA oc), .int .i64 c]) ∧ NCP w0 w b 100 P' [] F w' ∧ MsgIs w' (.agg (cellM m0 tA tc oA oc)) m0 ∧ (c = 0 → m0 ∈ L ∧ (decM (bytesL P i)).isSome = true) ∧ QOk L P' ∧ P'.length ≤ P.length := by
  by_cases hi : inP P i
  · obtain ⟨j, p, rfl, hj, hl⟩ := inP_get hi
    have hp := hq p (List.mem_of_getElem? hj)
    have hby : bytesL P (j : Int) = p.1 := by
      unfold bytesL
      rw [if_pos hi, Int.toNat_natCast, hj]
      rfl
    by_cases hw : 0 < p.2.2
    · refine (nc_busy hG h hj hw).mono ?_
      rintro e w' ⟨rfl, hn⟩
      exact ⟨P, zMsg, none, 0, none, 0, 20, rfl, hn, zMsg_is _, fun e => (by cases e), hq, Nat.le_refl _⟩
    · refine (nc_deliver hG hM h hj (by omega) hp.2.2 (by simp)).mono ?_
      rintro e w' ⟨hn, ⟨h1, rfl⟩ | ⟨m, v', h1, rfl, h2⟩⟩
      · exact ⟨_, zMsg, none, 0, none, 0, 6, rfl, hn, zMsg_is _, fun e => (by cases e), hq.erase _, erase_len _ _⟩
      · obtain ⟨tA, tc, oA, oc, rfl, h3⟩ := h2
        exact ⟨_, m, tA, tc, oA, oc, 0, rfl, hn, ⟨tA, tc, oA, oc, rfl, h3⟩, fun _ => ⟨hp.1 m h1, by rw [hby, h1]; rfl⟩, hq.erase _, erase_len _ _⟩
  · refine (nc_none hG h hi).mono ?_
    rintro e w' ⟨rfl, hn⟩
    exact ⟨P, zMsg, none, 0, none, 0, 3, rfl, hn, zMsg_is _, fun e => (by cases e), hq, Nat.le_refl _⟩
theorem bytesL_spoil {j k : Nat} {p : P3} (h : P[j]? = some p) : bytesL (spoilL P j k) (j : Int) = spoilB p.1 k := by
  have hl := (List.getElem?_eq_some_iff.1 h).1
  have hs : spoilL P j k = P.set j (spoilB p.1 k, p.2.1, p.2.2) := by unfold spoilL; rw [h]
  have hi : inP (spoilL P j k) (j : Int) := ⟨by omega, by rw [spoilL_len]; omega⟩
  unfold bytesL
  rw [if_pos hi, Int.toNat_natCast, hs, List.getElem?_set_self hl]
  rfl
theorem bitsP_get {j : Nat} {p : P3} (h : P[j]? = some p) : bitsP P j = 8 * (p.1.length : Int) := by unfold bitsP; rw [h]
theorem mem_take_succ {l : List MsgV} {j : Nat} {x y : MsgV} (h : l[j]? = some y) : decide (x ∈ l.take (j + 1)) = (decide (x ∈ l.take j) || decide (x = y)) := by
  rw [List.take_add_one, h]
  simp
theorem QOk.waits (h : QOk L P) : ∀ p ∈ P, 0 ≤ p.2.2 ∧ p.2.2 ≤ 1000 := fun p hp => (h p hp).2.1
end
end Go.Proofs.YtfddlhcdlgdofaaGreatDoor
