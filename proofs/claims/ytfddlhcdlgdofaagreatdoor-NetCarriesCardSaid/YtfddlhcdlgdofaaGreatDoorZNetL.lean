/- A law's own net: each call, told by its packets in plain words. The chapter's example; a net that is not there. A net that is not there. NetOrder: what is under way, and the row of what was sent. A message that was cut stays readable beside a net. -/
import Derived.Test.YtfddlhcdlgdofaaGreatDoorZDecO
import Derived.Test.YtfddlhcdlgdofaaGreatDoorZPosJ
import Derived.Test.YtfddlhcdlgdofaaGreatDoorZMefD
set_option linter.unusedSimpArgs false
set_option linter.unusedVariables false
set_option linter.unnecessarySimpa false
namespace Go.Proofs.YtfddlhcdlgdofaaGreatDoor
open Go.RowKit Go.Shelf
/-- A net made since w0, no site cut off; F: blocks that are none of its. -/
def NR (w0 W : World) (b : Nat) (most : Int) (P : List P3) (F : Nat → Prop) : Prop :=
  ∃ v ro L mp c, NetAt W b most v L mp [] c ro ∧ L.map Pk.p = P ∧ (∀ k, ro k ≠ 0 → w0.heap.size ≤ k ∧ ¬ F k) ∧ Below w0.heap.size w0 W ∧ ∀ k, F k → k < W.heap.size
section
variable {w0 w : World} {b : Nat} {most : Int} {P : List P3} {F : Nat → Prop}
/-- What a call of the net leaves: the same net with other packets; what is not its stays. -/
def NRP (w0 w : World) (b : Nat) (most : Int) (P : List P3) (F : Nat → Prop) (w' : World) : Prop := NR w0 w' b most P F ∧ Touch (fun k => w0.heap.size ≤ k ∧ ¬ F k) w w'
theorem NR.below (h : NR w0 w b most P F) {W : World} (hb : Below w.heap.size w W) : NR w0 W b most P F := by
  obtain ⟨v, ro, L, mp, c, h1, h2, h3, h4, h5⟩ := h
  exact ⟨v, ro, L, mp, c, h1.below hb, h2, h3, h4.trans (hb.mono h4.size), fun k hk => Nat.lt_of_lt_of_le (h5 k hk) hb.size⟩
theorem NR.pbelow (h : NR w0 w b most P F) {W : World} (hb : Below w.heap.size w W) : NRP w0 w b most P F W := ⟨h.below hb, .of_below hb⟩
theorem NR.bel (h : NR w0 w b most P F) : Below w0.heap.size w0 w := by
  obtain ⟨_, _, _, _, _, _, _, _, h4, _⟩ := h
  exact h4
theorem NRP.after {W W' : World} (h : NRP w0 w b most P F W) (hb : Below W.heap.size W W') : NRP w0 w b most P F W' := ⟨h.1.below hb, h.2.after hb⟩
theorem NR.next {v : Value} {ro : Nat → Nat} {L : List Pk} {mp c : Nat} (h1 : NetAt w b most v L mp [] c ro) (h3 : ∀ k, ro k ≠ 0 → w0.heap.size ≤ k ∧ ¬ F k) (h4 : Below w0.heap.size w0 w) (h5 : ∀ k, F k → k < w.heap.size) {P' : List P3} {W : World} (hp : NetP w b most mp [] c ro P' W) : NRP w0 w b most P' F W := by
  obtain ⟨v', ro', L', q1, q2, q3⟩ := hp
  have hT : Touch (fun k => w0.heap.size ≤ k ∧ ¬ F k) w W := q2.1.mono (fun k _ e => h3 k e)
  refine ⟨⟨v', ro', L', mp, c, q1, q3, fun k hk => ?_, h4.trans (hT.below (fun i e => e.1) h4.size), fun k hk => Nat.lt_of_lt_of_le (h5 k hk) hT.size⟩, hT⟩
  by_cases hlt : k < w.heap.size
  · rw [q2.2 k hlt] at hk; exact h3 k hk
  · exact ⟨Nat.le_trans h4.size (Nat.le_of_not_lt hlt), fun e => hlt (h5 k e)⟩
/-- More blocks that are none of the net's. -/
theorem NR.more (h : NR w0 w b most P F) {G : Nat → Prop} (hG : ∀ k, G k → F k) : NR w0 w b most P G := by
  obtain ⟨v, ro, L, mp, c, h1, h2, h3, h4, h5⟩ := h
  exact ⟨v, ro, L, mp, c, h1, h2, fun k hk => ⟨(h3 k hk).1, fun e => (h3 k hk).2 (hG k e)⟩, h4, fun k hk => h5 k (hG k hk)⟩
theorem NR.add (h : NR w0 w b most P F) {W : World} (hb : Below w.heap.size w W) : NR w0 W b most P (fun k => F k ∨ (w.heap.size ≤ k ∧ k < W.heap.size)) := by
  obtain ⟨v, ro, L, mp, c, h1, h2, h3, h4, h5⟩ := h
  refine ⟨v, ro, L, mp, c, h1.below hb, h2, fun k hk => ⟨(h3 k hk).1, fun e => ?_⟩, h4.trans (hb.mono h4.size), fun k hk => ?_⟩
  · rcases e with e | e
    · exact (h3 k hk).2 e
    · have := h1.lt k hk; omega
  · rcases hk with e | e
    · exact Nat.lt_of_lt_of_le (h5 k e) hb.size
    · exact e.2
theorem get_p {L : List Pk} {i : Nat} {p : P3} (h : (L.map Pk.p)[i]? = some p) : ∃ x, L[i]? = some x ∧ x.p = p := by
  rw [List.getElem?_map] at h
  cases hx : L[i]? with
  | none => rw [hx] at h; cases h
  | some x => rw [hx] at h; exact ⟨x, rfl, Option.some.inj h⟩
theorem old_errT {ro : Nat → Nat} (hG : Glob w0) (h3 : ∀ k, ro k ≠ 0 → w0.heap.size ≤ k ∧ ¬ F k) : ro 1 = 0 := by
  by_cases e : ro 1 = 0
  · exact e
  · have := (h3 _ e).1; have := hG.lt; omega
theorem old_moved {ro : Nat → Nat} (hM : Mov w0) (h3 : ∀ k, ro k ≠ 0 → w0.heap.size ≤ k ∧ ¬ F k) : ro 0 = 0 := by
  by_cases e : ro 0 = 0
  · exact e
  · have := (h3 _ e).1; have := hM.lt; omega
theorem nr_new {most : Int} (h1 : 1 ≤ most) (h2 : most ≤ 1024) : Calls Tryz.prog 11 #[.int .i64 most] w fun e w' => ∃ b, e = .returned (.tuple #[.pointer (some ⟨b, 0, none⟩), .int .i64 0]) ∧ NR w w' b most [] (fun _ => False) := by
  refine (nnew_ok h1 h2).mono ?_
  rintro e w' ⟨b, mp, ro, rfl, hn, hr, hb⟩
  exact ⟨b, rfl, _, ro, [], mp, 0, hn, rfl, fun k hk => ⟨hr k hk, fun e => e⟩, hb, fun k e => e.elim⟩
theorem nr_len (h : NR w0 w b most P F) : Calls Tryz.prog 16 #[.pointer (some ⟨b, 0, none⟩)] w fun e w' => e = .returned (.int .i64 P.length) ∧ w' = w := by
  obtain ⟨v, ro, L, mp, c, h1, rfl, h3, h4, h5⟩ := h
  rw [List.length_map]
  exact nlen_any h1
theorem nr_twice (hG : Glob w0) (h : NR w0 w b most P F) (hm : most ≤ 1024) {i : Nat} {p : P3} (hi : P[i]? = some p) (hl : (P.length : Int) < most) : Calls Tryz.prog 26 #[.pointer (some ⟨b, 0, none⟩), .int .i64 i] w fun e w' => e = .returned (.int .i64 0) ∧ NRP w0 w b most (P ++ [(p.1, p.2.1, 0)]) F w' := by
  obtain ⟨v, ro, L, mp, c, h1, rfl, h3, h4, h5⟩ := h
  obtain ⟨x, hx, rfl⟩ := get_p hi
  rw [List.length_map] at hl
  refine (nTwice_ok (hG.below h4) (old_errT hG h3) h1 hm hx hl).mono ?_
  rintro e w' ⟨rfl, hp⟩
  exact ⟨rfl, NR.next h1 h3 h4 h5 hp⟩
theorem nr_drop (hG : Glob w0) (h : NR w0 w b most P F) {i : Nat} (hi : i < P.length) : Calls Tryz.prog 25 #[.pointer (some ⟨b, 0, none⟩), .int .i64 i] w fun e w' => e = .returned (.int .i64 0) ∧ NRP w0 w b most (P.eraseIdx i) F w' := by
  obtain ⟨v, ro, L, mp, c, h1, rfl, h3, h4, h5⟩ := h
  rw [List.length_map] at hi
  refine (nDrop_ok (hG.below h4) (old_errT hG h3) h1 hi).mono ?_
  rintro e w' ⟨rfl, hp⟩
  exact ⟨rfl, NR.next h1 h3 h4 h5 hp⟩
theorem nr_hold (hG : Glob w0) (h : NR w0 w b most P F) {i : Nat} {p : P3} (hi : P[i]? = some p) {k : Int} (hk : 0 ≤ k ∧ k ≤ 1000) : Calls Tryz.prog 28 #[.pointer (some ⟨b, 0, none⟩), .int .i64 i, .int .i64 k] w fun e w' => e = .returned (.int .i64 0) ∧ NRP w0 w b most (P.set i (p.1, p.2.1, k)) F w' := by
  obtain ⟨v, ro, L, mp, c, h1, rfl, h3, h4, h5⟩ := h
  obtain ⟨x, hx, rfl⟩ := get_p hi
  refine (nHold_ok (hG.below h4) (old_errT hG h3) h1 hx hk).mono ?_
  rintro e w' ⟨rfl, hp⟩
  exact ⟨rfl, NR.next h1 h3 h4 h5 hp⟩
theorem nr_move (hG : Glob w0) (h : NR w0 w b most P F) {i k : Nat} {p : P3} (hi : P[i]? = some p) (hk : k < P.length) : Calls Tryz.prog 27 #[.pointer (some ⟨b, 0, none⟩), .int .i64 i, .int .i64 k] w fun e w' => e = .returned (.int .i64 0) ∧ NRP w0 w b most ((P.eraseIdx i).insertIdx k p) F w' := by
  obtain ⟨v, ro, L, mp, c, h1, rfl, h3, h4, h5⟩ := h
  obtain ⟨x, hx, rfl⟩ := get_p hi
  rw [List.length_map] at hk
  refine (nMove_ok (hG.below h4) (old_errT hG h3) h1 hx hk).mono ?_
  rintro e w' ⟨rfl, hp⟩
  exact ⟨rfl, NR.next h1 h3 h4 h5 hp⟩
theorem nr_tick (h : NR w0 w b most P F) (hw : ∀ p ∈ P, 0 ≤ p.2.2 ∧ p.2.2 ≤ 1000) : Calls Tryz.prog 30 #[.pointer (some ⟨b, 0, none⟩)] w fun e w' => e = .returned (.tuple #[]) ∧ NRP w0 w b most (P.map tickP) F w' := by
  obtain ⟨v, ro, L, mp, c, h1, rfl, h3, h4, h5⟩ := h
  refine (nTick_any h1 (fun e he => hw _ (List.mem_map_of_mem he))).mono ?_
  rintro e w' ⟨rfl, hp⟩
  exact ⟨rfl, NR.next h1 h3 h4 h5 hp⟩
theorem nr_busy (hG : Glob w0) (h : NR w0 w b most P F) {i : Nat} {p : P3} (hi : P[i]? = some p) (hw : 0 < p.2.2) : Calls Tryz.prog 22 #[.pointer (some ⟨b, 0, none⟩), .int .i64 i] w fun e w' => e = .returned (.tuple #[zeroM, .int .i64 20]) ∧ NRP w0 w b most P F w' := by
  have h' := h
  obtain ⟨v, ro, L, mp, c, h1, rfl, h3, h4, h5⟩ := h
  obtain ⟨x, hx, rfl⟩ := get_p hi
  refine (nDeliver_busy (hG.below h4) h1 hx hw).mono ?_
  rintro e w' ⟨rfl, hb⟩
  exact ⟨rfl, h'.pbelow hb⟩
theorem nr_none (hG : Glob w0) (h : NR w0 w b most P F) {i : Int} (hi : ¬ (0 ≤ i ∧ i < (P.length : Int))) : Calls Tryz.prog 22 #[.pointer (some ⟨b, 0, none⟩), .int .i64 i] w fun e w' => e = .returned (.tuple #[zeroM, .int .i64 3]) ∧ NRP w0 w b most P F w' := by
  have h' := h
  obtain ⟨v, ro, L, mp, c, h1, rfl, h3, h4, h5⟩ := h
  rw [List.length_map] at hi
  refine (nDeliver_no (hG.below h4) (fun W hW => nfind_no (h1.below hW) hi)).mono ?_
  rintro e w' ⟨rfl, hb⟩
  exact ⟨rfl, h'.pbelow hb⟩
theorem nr_deliver (hG : Glob w0) (hM : Mov w0) (h : NR w0 w b most P F) {i : Nat} {p : P3} (hi : P[i]? = some p) (hw : p.2.2 = 0) (hs : -9223372036854775808 ≤ p.2.1 ∧ p.2.1 ≤ 9223372036854775807) : Calls Tryz.prog 22 #[.pointer (some ⟨b, 0, none⟩), .int .i64 i] w fun e w' => NRP w0 w b most (P.eraseIdx i) F w' ∧ ((decM p.1 = none ∧ e = .returned (.tuple #[zeroM, .int .i64 6])) ∨ ∃ m v, decM p.1 = some m ∧ e = .returned (.tuple #[v, .int .i64 0]) ∧ MsgIs w' v m) := by
  obtain ⟨v, ro, L, mp, c, h1, rfl, h3, h4, h5⟩ := h
  obtain ⟨x, hx, rfl⟩ := get_p hi
  refine (nDeliver_ok (hG.below h4) (hM.below h4) ⟨old_errT hG h3, old_moved hM h3⟩ h1 hx hw hs (fun e he => by cases he)).mono ?_
  rintro e w' ⟨hp, hc⟩
  exact ⟨NR.next h1 h3 h4 h5 hp, hc⟩
/-- Send of messages that lie in a row; they stay while the net changes. -/
theorem nr_send (hG : Glob w0) (hM : Mov w0) (h : NR w0 w b most P F) (hm : most ≤ 1024) {g cap : Nat} {ms : List MsgV} (hle : ms.length ≤ cap) (hlen : ms.length ≤ 1000)
    (hms : ∀ (i : Nat) (m : MsgV), ms[i]? = some m → SendOk [] m ∧ ∃ tA tc oA oc, ∀ W, Touch (fun k => w0.heap.size ≤ k ∧ ¬ F k) w W → M11 W ⟨g, i * 11, none⟩ m tA tc oA oc ∧ MsgIs W (.agg (msgCells m tA tc oA oc)) m) :
    Calls Tryz.prog 18 #[.pointer (some ⟨b, 0, none⟩), .slice (some ⟨g, 0, none⟩) ms.length cap] w fun e w' => e = .returned (.int .i64 (((ms.foldl (sendL most) P).length : Int) - (P.length : Int))) ∧ NRP w0 w b most (ms.foldl (sendL most) P) F w' := by
  obtain ⟨v, ro, L, mp, c, h1, rfl, h3, h4, h5⟩ := h
  refine (nSend_any (hG.below h4) (hM.below h4) ⟨old_errT hG h3, old_moved hM h3⟩ h1 hm hle hlen (fun i m hi => ?_)).mono ?_
  · obtain ⟨q1, tA, tc, oA, oc, q2⟩ := hms i m hi
    exact ⟨q1, tA, tc, oA, oc, fun W ro' hs => q2 W (hs.1.mono (fun k _ e => h3 k e))⟩
  · rintro e w' ⟨P', rfl, hp, rfl⟩
    rw [List.length_map]
    exact ⟨rfl, NR.next h1 h3 h4 h5 hp⟩
end
/-- A message of the example. -/
def keptM (g s : Int) : MsgV := ⟨13, s, 0, g, 0, 0, 0, 0, 0, [], []⟩
theorem keptM_is (W : World) (g s : Int) : MsgIs W (.agg #[.int .i64 13, .int .i64 s, .int .i64 0, .int .i64 g, .int .i64 0, .int .i64 0, .int .i64 0, .int .i64 0, .int .i64 0, .slice none 0 0, .slice none 0 0]) (keptM g s) := ⟨none, 0, none, 0, rfl, NumsAt.nil _, OpsAt.nil _, fun o h => by cases h⟩
theorem keptM_in (g s : Int) : MsgIn (keptM g s) := ⟨fun x h => (by cases h), fun o h => (by cases h)⟩
theorem keptM_may : mayM (keptM 1 1) = true ∧ mayM (keptM 2 2) = true := by decide +kernel
set_option maxRecDepth 100000 in
theorem kept_any {w : World} (g s : Int) : Calls Tryz.prog 31 #[.int .i64 g, .int .i64 s] w fun e w' => e = .returned (.agg #[.int .i64 13, .int .i64 s, .int .i64 0, .int .i64 g, .int .i64 0, .int .i64 0, .int .i64 0, .int .i64 0, .int .i64 0, .slice none 0 0, .slice none 0 0]) ∧ Below w.heap.size w w' := by
  go_enter Tryz.func31, Tryz.ntmps31
  go_wp2_with fail
  exact bodyPost_ret (v := .agg #[.int .i64 13, .int .i64 s, .int .i64 0, .int .i64 g, .int .i64 0, .int .i64 0, .int .i64 0, .int .i64 0, .int .i64 0, .slice none 0 0, .slice none 0 0]) (by simp [results, Tryz.results31, go_sem]) rfl ⟨rfl, below_new _⟩
end Go.Proofs.YtfddlhcdlgdofaaGreatDoor

namespace Go.Proofs.YtfddlhcdlgdofaaGreatDoor
open Go.RowKit Go.Shelf
theorem keptM_ok (g s : Int) (hs : -9223372036854775808 ≤ siteM (keptM g s) ∧ siteM (keptM g s) ≤ 9223372036854775807) : SendOk [] (keptM g s) := fun _ => ⟨keptM_in g s, hs, fun e he => by cases he⟩
theorem kept_sent : [keptM 1 1, keptM 2 2].foldl (sendL 9) [] = [(encM (keptM 1 1), 1, 0), (encM (keptM 2 2), 2, 0)] := by
  have s1 : siteM (keptM 1 1) = 1 := by decide
  have s2 : siteM (keptM 2 2) = 2 := by decide
  simp only [List.foldl_cons, List.foldl_nil]
  rw [show sendL 9 [] (keptM 1 1) = [(encM (keptM 1 1), 1, 0)] from by unfold sendL; rw [if_pos ⟨keptM_may.1, by decide⟩, s1]; rfl]
  unfold sendL
  rw [if_pos ⟨keptM_may.2, by simp⟩, s2]
  rfl
set_option maxRecDepth 100000 in
theorem kept_m11 {W : World} {g : Nat} (h : W.heap[g]? = some (.cells #[.int .i64 13, .int .i64 1, .int .i64 0, .int .i64 1, .int .i64 0, .int .i64 0, .int .i64 0, .int .i64 0, .int .i64 0, .slice none 0 0, .slice none 0 0, .int .i64 13, .int .i64 2, .int .i64 0, .int .i64 2, .int .i64 0, .int .i64 0, .int .i64 0, .int .i64 0, .int .i64 0, .slice none 0 0, .slice none 0 0] 50 (0, 0))) :
    M11 W ⟨g, 0 * 11, none⟩ (keptM 1 1) none 0 none 0 ∧ M11 W ⟨g, 1 * 11, none⟩ (keptM 2 2) none 0 none 0 :=
  ⟨⟨cell_of h 0, cell_of h 1, cell_of h 2, cell_of h 3, cell_of h 4, cell_of h 5, cell_of h 6, cell_of h 7, cell_of h 8, cell_of h 9, cell_of h 10⟩, ⟨cell_of h 11, cell_of h 12, cell_of h 13, cell_of h 14, cell_of h 15, cell_of h 16, cell_of h 17, cell_of h 18, cell_of h 19, cell_of h 20, cell_of h 21⟩⟩
set_option maxRecDepth 100000 in
set_option maxHeartbeats 4000000 in
theorem nawake {w : World} (hG : Glob w) (hM : Mov w) :
    Calls Tryz.prog 12 #[] w fun e w' => e = .returned (.bool true) ∧ Below w.heap.size w w' := by
  have HG := Lib.hid (And.intro hG hM)
  have HNE := Lib.hid (nr_new (w := w) (most := 9) (by decide) (by decide))
  have HK := Lib.hid (fun W g s => kept_any (w := W) g s)
  have qE : ∀ (w : World) (p : Addr), (binOp .eql 23 (.pointer (some p)) (.pointer none)).run Tryz.prog w = .ok (.bool false) w := fun w p => by kernel_rfl
  clear hG hM
  go_enter Tryz.func12, Tryz.ntmps12
  go_wp2_with fail
  refine (HNE.out).mono ?_
  rintro e w1 ⟨b, rfl, hn1⟩
  have HN1 := Lib.hid hn1
  clear hn1
  go_wp2_with fail
  refine (HK.out _ _ _).mono ?_
  rintro e w2 ⟨rfl, hb2⟩
  go_wp2_with fail
  refine (HK.out _ _ _).mono ?_
  rintro e w3 ⟨rfl, hb3⟩
  go_wp2_with fail
  have hb4 := below_new (w := w3) (.cells #[.int .i64 13, .int .i64 1, .int .i64 0, .int .i64 1, .int .i64 0, .int .i64 0, .int .i64 0, .int .i64 0, .int .i64 0, .slice none 0 0, .slice none 0 0, .int .i64 13, .int .i64 2, .int .i64 0, .int .i64 2, .int .i64 0, .int .i64 0, .int .i64 0, .int .i64 0, .int .i64 0, .slice none 0 0, .slice none 0 0] 50)
  have hat4 := alloc_at w3 (.cells #[.int .i64 13, .int .i64 1, .int .i64 0, .int .i64 1, .int .i64 0, .int .i64 0, .int .i64 0, .int .i64 0, .int .i64 0, .slice none 0 0, .slice none 0 0, .int .i64 13, .int .i64 2, .int .i64 0, .int .i64 2, .int .i64 0, .int .i64 0, .int .i64 0, .int .i64 0, .int .i64 0, .slice none 0 0, .slice none 0 0] 50)
  have hn4 := ((HN1.out.below hb2).below hb3).add hb4
  have hs := nr_send HG.out.1 HG.out.2 hn4 (by decide) (g := w3.heap.size) (cap := 2) (ms := [keptM 1 1, keptM 2 2]) (by simp) (by simp) (fun i m hi => by
    have hk : ∀ W, Touch (fun k => w.heap.size ≤ k ∧ ¬ ((fun _ => False) k ∨ (w3.heap.size ≤ k ∧ k < (w3.alloc (.cells #[.int .i64 13, .int .i64 1, .int .i64 0, .int .i64 1, .int .i64 0, .int .i64 0, .int .i64 0, .int .i64 0, .int .i64 0, .slice none 0 0, .slice none 0 0, .int .i64 13, .int .i64 2, .int .i64 0, .int .i64 2, .int .i64 0, .int .i64 0, .int .i64 0, .int .i64 0, .int .i64 0, .slice none 0 0, .slice none 0 0] 50)).heap.size))) (w3.alloc (.cells #[.int .i64 13, .int .i64 1, .int .i64 0, .int .i64 1, .int .i64 0, .int .i64 0, .int .i64 0, .int .i64 0, .int .i64 0, .slice none 0 0, .slice none 0 0, .int .i64 13, .int .i64 2, .int .i64 0, .int .i64 2, .int .i64 0, .int .i64 0, .int .i64 0, .int .i64 0, .int .i64 0, .slice none 0 0, .slice none 0 0] 50)) W → W.heap[w3.heap.size]? = some (.cells #[.int .i64 13, .int .i64 1, .int .i64 0, .int .i64 1, .int .i64 0, .int .i64 0, .int .i64 0, .int .i64 0, .int .i64 0, .slice none 0 0, .slice none 0 0, .int .i64 13, .int .i64 2, .int .i64 0, .int .i64 2, .int .i64 0, .int .i64 0, .int .i64 0, .int .i64 0, .int .i64 0, .slice none 0 0, .slice none 0 0] 50 (0, 0)) := fun W hW => (hW.block _ (heap_lt hat4) (fun e => e.2 (.inr ⟨Nat.le_refl _, heap_lt hat4⟩))).trans hat4
    match i, hi with
    | 0, hi =>
      cases hi
      exact ⟨keptM_ok 1 1 (by decide), none, 0, none, 0, fun W hW => ⟨(kept_m11 (hk W hW)).1, keptM_is W 1 1⟩⟩
    | 1, hi =>
      cases hi
      exact ⟨keptM_ok 2 2 (by decide), none, 0, none, 0, fun W hW => ⟨(kept_m11 (hk W hW)).2, keptM_is W 2 2⟩⟩)
  rw [kept_sent] at hs
  have hd1 : decM (encM (keptM 1 1)) = some (keptM 1 1) := decM_back keptM_may.1 (keptM_in 1 1)
  generalize encM (keptM 1 1) = e1 at hs hd1
  generalize encM (keptM 2 2) = e2 at hs
  have HD := Lib.hid hd1
  clear hb2 hb3 hb4 hat4 hn4 hd1
  refine hs.mono ?_
  clear hs
  rintro e w4 ⟨rfl, hn, _⟩
  have HTW := Lib.hid (nr_twice HG.out.1 hn (by decide) (i := 0) (p := (e1, 1, 0)) rfl (by simp))
  clear hn
  go_wp2_with fail
  refine (HTW.out).mono ?_
  rintro e w5 ⟨rfl, hn5, _⟩
  have hn5 : NR w w5 b 9 [(e1, 1, 0), (e2, 2, 0), (e1, 1, 0)] _ := hn5
  have HMV := Lib.hid (nr_move HG.out.1 hn5 (i := 2) (k := 0) (p := (e1, 1, 0)) rfl (by simp))
  clear hn5
  go_wp2_with fail
  refine (HMV.out).mono ?_
  rintro e w6 ⟨rfl, hn6, _⟩
  have hn6 : NR w w6 b 9 [(e1, 1, 0), (e1, 1, 0), (e2, 2, 0)] _ := hn6
  have HDR := Lib.hid (nr_drop HG.out.1 hn6 (i := 1) (by simp))
  clear hn6
  go_wp2_with fail
  refine (HDR.out).mono ?_
  rintro e w7 ⟨rfl, hn7, _⟩
  have hn7 : NR w w7 b 9 [(e1, 1, 0), (e2, 2, 0)] _ := hn7
  have HHO := Lib.hid (nr_hold HG.out.1 hn7 (i := 0) (p := (e1, 1, 0)) rfl (k := 2) (by decide))
  clear hn7
  go_wp2_with fail
  refine (HHO.out).mono ?_
  rintro e w8 ⟨rfl, hn8, _⟩
  have hn8 : NR w w8 b 9 [(e1, 1, 2), (e2, 2, 0)] _ := hn8
  have HBU := Lib.hid (nr_busy HG.out.1 hn8 (i := 0) (p := (e1, 1, 2)) rfl (show (0 : Int) < 2 by decide))
  clear hn8
  go_wp2_with fail
  refine (HBU.out).mono ?_
  rintro e w9 ⟨rfl, hn9, _⟩
  have hb9 := below_new (w := w9) (.cells zeroC 50)
  have hn10 := hn9.below hb9
  have hw10 : ∀ p ∈ [((e1, 1, 2) : P3), (e2, 2, 0)], 0 ≤ p.2.2 ∧ p.2.2 ≤ 1000 := by simp
  have HTA := Lib.hid (nr_tick hn10 hw10)
  clear hn9 hb9 hn10 hw10
  go_wp2_with fail
  refine (HTA.out).mono ?_
  rintro e w10 ⟨rfl, hn11, _⟩
  have hn11 : NR w w10 b 9 [(e1, 1, 1), (e2, 2, 0)] _ := hn11
  have hw11 : ∀ p ∈ [((e1, 1, 1) : P3), (e2, 2, 0)], 0 ≤ p.2.2 ∧ p.2.2 ≤ 1000 := by simp
  have HTB := Lib.hid (nr_tick hn11 hw11)
  clear hn11 hw11
  go_wp2_with fail
  refine (HTB.out).mono ?_
  rintro e w11 ⟨rfl, hn12, _⟩
  have hn12 : NR w w11 b 9 [(e1, 1, 0), (e2, 2, 0)] _ := hn12
  have HDE := Lib.hid (nr_deliver HG.out.1 HG.out.2 hn12 (i := 0) (p := (e1, 1, 0)) rfl rfl (show (-9223372036854775808 : Int) ≤ 1 ∧ (1 : Int) ≤ 9223372036854775807 by decide))
  clear hn12
  go_wp2_with fail
  refine (HDE.out).mono ?_
  rintro e w12 ⟨⟨hn13, _⟩, hc⟩
  rcases hc with ⟨hd, _⟩ | ⟨m, v, hd, rfl, hm⟩
  · rw [HD.out] at hd; cases hd
  obtain rfl : keptM 1 1 = m := Option.some.inj (HD.out.symm.trans hd)
  obtain ⟨tA, tc, oA, oc, rfl, _⟩ := hm
  have hn13 : NR w w12 b 9 [(e2, 2, 0)] _ := hn13
  have hb13 := below_new (w := w12) (.cells (cellM (keptM 1 1) tA tc oA oc) 50)
  have HLE := Lib.hid (nr_len (hn13.below hb13))
  have HFB := Lib.hid (hn13.below hb13).bel
  clear hn13 hb13 hd
  go_wp2_with fail
  refine (HLE.out).mono ?_
  rintro e w14 ⟨rfl, rfl⟩
  go_wp2_with fail
  go_ret
  exact ⟨rfl, HFB.out⟩
end Go.Proofs.YtfddlhcdlgdofaaGreatDoor

namespace Go.Proofs.YtfddlhcdlgdofaaGreatDoor
open Go.RowKit Go.Shelf
set_option maxRecDepth 100000 in
set_option maxHeartbeats 4000000 in
theorem law_nnil {w : World} (hG : Glob w) (hM : Mov w) (i k : Int) :
    Calls Tryz.prog 5 #[.int .i64 i, .int .i64 k] w fun e w' => e = .returned (.bool true) ∧ Below w.heap.size w w' := by
  have HTI := Lib.hid (fun W => nTick_nil (w := W))
  have HDE := Lib.hid (fun W (hW : Below w.heap.size w W) => nDeliver_no (hG.below hW) (fun W' _ => nfind_nil (w := W') i))
  have HK := Lib.hid (fun W g s => kept_any (w := W) g s)
  have HSE := Lib.hid (fun W A => nSend_nil (w := W) (A := A))
  have HDR := Lib.hid (fun W (hW : Below w.heap.size w W) => nDrop_no (hG.below hW) (nfind_nil (w := W) i))
  have HTW := Lib.hid (fun W (hW : Below w.heap.size w W) => nTwice_no (hG.below hW) (nfind_nil (w := W) i))
  have HMO := Lib.hid (fun W (hW : Below w.heap.size w W) => nMove_no (k := k) (hG.below hW) (nfind_nil (w := W) i))
  have HHO := Lib.hid (fun W (hW : Below w.heap.size w W) => nHold_no (k := k) (hG.below hW) (nfind_nil (w := W) i))
  have HSP := Lib.hid (fun W (hW : Below w.heap.size w W) => nSpoil_no (k := k) (hG.below hW) (nfind_nil (w := W) i))
  have HPA := Lib.hid (fun W (hW : Below w.heap.size w W) => nPart_no (hG.below hW) (nnamed_nil (w := W) i))
  have HHE := Lib.hid (fun W (hW : Below w.heap.size w W) => nHeal_no (hG.below hW) (nnamed_nil (w := W) i))
  have HLE := Lib.hid (fun W => nlen_nil (w := W))
  have HPK := Lib.hid (fun W => nPacket_no (nfind_nil (w := W) i))
  have HWT := Lib.hid (fun W => nWaits_no (nfind_nil (w := W) i))
  have HPD := Lib.hid (fun W => nParted_nil (w := W))
  have HAW := Lib.hid (fun W (hW : Below w.heap.size w W) => nawake (hG.below hW) (hM.below hW))
  clear hG hM
  go_enter Tryz.func5, Tryz.ntmps5
  go_wp2_with fail
  refine (HTI.out _).mono ?_
  rintro e w1 ⟨rfl, rfl⟩
  go_wp2_with fail
  refine (HDE.out _ (Below.refl _ _)).mono ?_
  rintro e w2 ⟨rfl, hb2⟩
  have hb2a := hb2.trans ((below_new (w := w2) (.cells zeroC 50)).mono hb2.size)
  go_wp2_with fail
  refine (HK.out _ _ _).mono ?_
  rintro e w3 ⟨rfl, hb3⟩
  have hb3' := hb2a.trans (hb3.mono hb2a.size)
  have hb := hb3'.trans ((below_new (w := w3) (.cells #[.int .i64 13, .int .i64 1, .int .i64 0, .int .i64 1, .int .i64 0, .int .i64 0, .int .i64 0, .int .i64 0, .int .i64 0, .slice none 0 0, .slice none 0 0] 50)).mono hb3'.size)
  clear hb2 hb2a hb3 hb3'
  go_wp2_with fail
  refine (HSE.out _ _).mono ?_
  rintro e w4 ⟨rfl, rfl⟩
  have HB := Lib.hid hb
  clear hb
  go_wp2_with fail
  refine (HDR.out _ HB.out).mono ?_
  rintro e w5 ⟨rfl, hb⟩
  have HB := Lib.hid (HB.out.trans (hb.mono HB.out.size))
  clear hb
  go_wp2_with fail
  refine (HTW.out _ HB.out).mono ?_
  rintro e w5 ⟨rfl, hb⟩
  have HB := Lib.hid (HB.out.trans (hb.mono HB.out.size))
  clear hb
  go_wp2_with fail
  refine (HMO.out _ HB.out).mono ?_
  rintro e w5 ⟨rfl, hb⟩
  have HB := Lib.hid (HB.out.trans (hb.mono HB.out.size))
  clear hb
  go_wp2_with fail
  refine (HHO.out _ HB.out).mono ?_
  rintro e w5 ⟨rfl, hb⟩
  have HB := Lib.hid (HB.out.trans (hb.mono HB.out.size))
  clear hb
  go_wp2_with fail
  refine (HSP.out _ HB.out).mono ?_
  rintro e w5 ⟨rfl, hb⟩
  have HB := Lib.hid (HB.out.trans (hb.mono HB.out.size))
  clear hb
  go_wp2_with fail
  refine (HPA.out _ HB.out).mono ?_
  rintro e w5 ⟨rfl, hb⟩
  have HB := Lib.hid (HB.out.trans (hb.mono HB.out.size))
  clear hb
  go_wp2_with fail
  refine (HHE.out _ HB.out).mono ?_
  rintro e w5 ⟨rfl, hb⟩
  have HB := Lib.hid (HB.out.trans (hb.mono HB.out.size))
  clear hb
  go_wp2_with fail
  refine (HLE.out _).mono ?_
  rintro e w5 ⟨rfl, rfl⟩
  go_wp2_with fail
  refine (HPK.out _).mono ?_
  rintro e w5 ⟨rfl, hb⟩
  have HB := Lib.hid (HB.out.trans (hb.mono HB.out.size))
  clear hb
  go_wp2_with fail
  refine (HWT.out _).mono ?_
  rintro e w5 ⟨rfl, hb⟩
  have HB := Lib.hid (HB.out.trans (hb.mono HB.out.size))
  clear hb
  go_wp2_with fail
  refine (HPD.out _).mono ?_
  rintro e w5 ⟨rfl, rfl⟩
  go_wp2_with fail
  refine (HAW.out _ HB.out).mono ?_
  rintro e w5 ⟨rfl, hb⟩
  have HB := Lib.hid (HB.out.trans (hb.mono HB.out.size))
  clear hb
  go_wp2_with fail
  go_ret
  exact ⟨rfl, HB.out⟩
end Go.Proofs.YtfddlhcdlgdofaaGreatDoor

namespace Go.Proofs.YtfddlhcdlgdofaaGreatDoor
open Go.RowKit Go.Shelf
theorem nkeys_cut (m : MsgV) : KeysIn (cutM m).os := fun o ho => by have := cutO_keys m.os o ho; omega
theorem nots_get : ∀ {outs : List Ot} {j i : Nat} {o : Ot}, outs[j]? = some o → i < 11 → (outs.flatMap Ot.c)[j * 11 + i]? = o.c[i]?
  | [], j, i, o, h, _ => by simp at h
  | a :: r, 0, i, o, h, hi => by
    have : a = o := by simpa using h
    subst this
    rw [List.flatMap_cons, Nat.zero_mul, Nat.zero_add, List.getElem?_append_left (by rw [Ot.len]; exact hi)]
  | a :: r, j + 1, i, o, h, hi => by
    rw [List.flatMap_cons, List.getElem?_append_right (by rw [Ot.len]; omega), Ot.len, show (j + 1) * 11 + i - 11 = j * 11 + i from by omega]
    exact nots_get (by simpa using h) hi
/-- What is under way where S was sent and so many have come. -/
def sentP (S : List MsgV) (got : Nat) : List P3 := (S.drop got).map fun m => (encM m, siteM m, 0)
theorem sentP_len (S : List MsgV) (got : Nat) : (sentP S got).length = S.length - got := by rw [sentP, List.length_map, List.length_drop]
theorem sentP_send {S : List MsgV} {got : Nat} {m : MsgV} (hm : mayM m = true) (hg : got ≤ S.length) (hl : S.length < 1024) : sendL 1024 (sentP S got) m = sentP (S ++ [m]) got := by
  rw [sendL, if_pos ⟨hm, by rw [sentP_len]; omega⟩, sentP, sentP, List.drop_append_of_le_length hg, List.map_append]
  rfl
theorem sentP_not {P : List P3} {m : MsgV} (hm : mayM m = false) (most : Int) : sendL most P m = P := by
  rw [sendL, if_neg (fun e => by rw [hm] at e; cases e.1)]
theorem sentP_first {S : List MsgV} {got : Nat} {m : MsgV} (h : S[got]? = some m) : (sentP S got)[0]? = some (encM m, siteM m, 0) := by
  rw [sentP, List.getElem?_map, List.getElem?_drop, Nat.add_zero, h]
  rfl
theorem sentP_next (S : List MsgV) (got : Nat) : (sentP S got).eraseIdx 0 = sentP S (got + 1) := by
  rw [List.eraseIdx_zero, sentP, sentP, ← List.map_tail, List.tail_drop]
/-- The sites of messages that may be. -/
theorem site_in {m : MsgV} (h : mayM m = true) : -9223372036854775808 ≤ siteM m ∧ siteM m ≤ 9223372036854775807 := by
  have F := mayM_fits h
  have h1 := F.fr
  have h2 := F.tt
  unfold siteM
  omega
/-- What else may change while the messages stay. -/
def OrdT (w0 : World) (F : Nat → Prop) (sv : Value) (k : Nat) : Prop := (w0.heap.size ≤ k ∧ ¬ F k) ∨ sv.ownBlock = some k
/-- The row of what was sent. -/
structure OrdM (w0 W : World) (S : List Ot) (F : Nat → Prop) (sv : Value) : Prop where
  bel : Below w0.heap.size w0 W
  row : RowIs W 11 sv S.length (S.flatMap Ot.c)
  own : ∀ k, sv.ownBlock = some k → F k ∧ w0.heap.size ≤ k
  msgs : ∀ o ∈ S, ∀ W', Touch (OrdT w0 F sv) W W' → MsgIs W' (.agg (cellM o.m o.tA o.tc o.oA o.oc)) o.m
  may : ∀ o ∈ S, mayM o.m = true ∧ MsgIn o.m
section
variable {w0 W : World} {b : Nat} {S : List Ot} {F : Nat → Prop} {sv : Value}
theorem OrdM.none {w0 : World} {F : Nat → Prop} (h : Below w0.heap.size w0 W) : OrdM w0 W [] F (.slice none 0 0) := ⟨h, RowIs.nil _ _, fun k e => (by cases e), fun o h => (by cases h), fun o h => (by cases h)⟩
/-- A call of the net. -/
theorem OrdM.call (h : OrdM w0 W S F sv) {W' : World} (ht : Touch (fun k => w0.heap.size ≤ k ∧ ¬ F k) W W') : OrdM w0 W' S F sv where
  bel := h.bel.trans (ht.below (fun i e => e.1) h.bel.size)
  row := h.row.touch ht (fun k hk e => e.2 (h.own k hk).1)
  own := h.own
  msgs := fun o ho W2 hW => h.msgs o ho W2 ((ht.mono (fun k _ e => Or.inl e)).trans hW (fun _ _ e => e))
  may := h.may
/-- New blocks that are none of the net's. -/
theorem OrdM.more (h : OrdM w0 W S F sv) {W' : World} (hb : Below W.heap.size W W') : OrdM w0 W' S (fun k => F k ∨ (W.heap.size ≤ k ∧ k < W'.heap.size)) sv where
  bel := h.bel.trans (hb.mono h.bel.size)
  row := h.row.below hb
  own := fun k hk => ⟨.inl (h.own k hk).1, (h.own k hk).2⟩
  msgs := fun o ho W2 hW => h.msgs o ho W2 (((Touch.of_below hb : Touch (OrdT w0 F sv) W W')).trans hW (fun k _ e => by
    rcases e with e | e
    · exact .inl ⟨e.1, fun q => e.2 (.inl q)⟩
    · exact .inr e))
  may := h.may
/-- One message more in the row: W1 is behind the append. -/
theorem OrdM.push (h : OrdM w0 W S F sv) {W1 : World} {sv' : Value} {o : Ot} (hrow : RowIs W1 11 sv' (S ++ [o]).length ((S ++ [o]).flatMap Ot.c)) (hgr : W.grownBy W1 sv.ownBlock) (hblk : sv'.ownBlock = sv.ownBlock ∨ sv'.ownBlock = some W.heap.size)
    (ho : ∀ W', Touch (OrdT w0 F sv) W W' → MsgIs W' (.agg (cellM o.m o.tA o.tc o.oA o.oc)) o.m) (hm : mayM o.m = true ∧ MsgIn o.m) :
    OrdM w0 W1 (S ++ [o]) (fun k => F k ∨ (W.heap.size ≤ k ∧ k < W1.heap.size)) sv' := by
  have hw0 := h.bel.size
  have hT : Touch (OrdT w0 F sv) W W1 := (Touch.refl _ _).grown hgr (fun k e _ => Or.inr e)
  have hT2 : Touch (fun k => sv.ownBlock = some k) W W1 := (Touch.refl _ _).grown hgr (fun k e _ => e)
  have hcl : ∀ W2, Touch (OrdT w0 (fun k => F k ∨ (W.heap.size ≤ k ∧ k < W1.heap.size)) sv') W1 W2 → Touch (OrdT w0 F sv) W W2 := fun W2 hW => hT.trans hW (fun k hk e => by
    rcases e with e | e
    · exact .inl ⟨e.1, fun q => e.2 (.inl q)⟩
    · rcases hblk with q | q
      · exact .inr (by rw [← q]; exact e)
      · rw [q] at e; cases e; omega)
  refine ⟨h.bel.trans (hT2.below (fun i e => (h.own i e).2) h.bel.size), hrow, fun k hk => ?_, fun x hx W2 hW => ?_, fun x hx => ?_⟩
  · rcases hblk with q | q
    · rw [q] at hk
      exact ⟨.inl (h.own k hk).1, (h.own k hk).2⟩
    · have hlt : k < W1.heap.size := by
        rcases hrow with ⟨rfl, _⟩ | ⟨g, cap, rfl, _, _, hr⟩
        · cases hk
        · cases hk; exact hr.lt
      rw [q] at hk
      cases hk
      exact ⟨.inr ⟨Nat.le_refl _, hlt⟩, hw0⟩
  · rcases List.mem_append.1 hx with e | e
    · exact h.msgs x e W2 (hcl W2 hW)
    · rw [List.mem_singleton.1 e]; exact ho W2 (hcl W2 hW)
  · rcases List.mem_append.1 hx with e | e
    · exact h.may x e
    · rw [List.mem_singleton.1 e]; exact hm
/-- The net beside an append to a row that is none of its. -/
theorem NR.grown {most : Int} {P : List P3} (h : NR w0 W b most P F) (hown : ∀ k, sv.ownBlock = some k → F k ∧ w0.heap.size ≤ k) {W1 : World} (hgr : W.grownBy W1 sv.ownBlock) : NR w0 W1 b most P (fun k => F k ∨ (W.heap.size ≤ k ∧ k < W1.heap.size)) := by
  have hT2 : Touch (fun k => sv.ownBlock = some k) W W1 := (Touch.refl _ _).grown hgr (fun k e _ => e)
  obtain ⟨v, ro, L, mp, c, h1, h2, h3, h4, h5⟩ := h
  refine ⟨v, ro, L, mp, c, h1.keep hT2 (fun k e => ?_), h2, fun k hk => ⟨(h3 k hk).1, fun e => ?_⟩, h4.trans (hT2.below (fun i e => (hown i e).2) h4.size), fun k hk => ?_⟩
  · by_cases q : ro k = 0
    · exact q
    · exact ((h3 k q).2 (hown k e).1).elim
  · rcases e with e | e
    · exact (h3 k hk).2 e
    · have := h1.lt k hk; omega
  · rcases hk with e | e
    · exact Nat.lt_of_lt_of_le (h5 k e) hT2.size
    · exact e.2
end
end Go.Proofs.YtfddlhcdlgdofaaGreatDoor

namespace Go.Proofs.YtfddlhcdlgdofaaGreatDoor
open Go.RowKit Go.Shelf
theorem infoRM : (Tryz.prog.info? 37).map (fun i => (i.zero, i.size, i.bytes)) = some (some zeroM, 11, 120) := by kernel_rfl
theorem row_cell {w : World} {z gs n m c : Nat} {l : List Value} (h : RowIs w z (.slice (some ⟨gs, 0, none⟩) n c) m l) {j : Nat} {u : Value} (hj : l[j]? = some u) : w.cell? ⟨gs, j, none⟩ = some u := by
  obtain ⟨A, cp, e, _, _, _, _, h5⟩ := h.form
  obtain ⟨g, h1, h2⟩ := h5 j u hj
  cases e
  cases h1
  exact h2
theorem nmsg_cut {m : MsgV} (h : MsgIn m) : MsgIn (cutM m) := by
  refine ⟨fun x hx => h.told x (List.mem_of_mem_take hx), fun o ho => ?_⟩
  obtain ⟨x, hx, rfl⟩ := List.mem_map.1 ho
  have := h.ops x (List.mem_of_mem_take hx)
  have e : (cutK x).k = x.k ∧ (cutK x).n = x.n ∧ (cutK x).lo = x.lo := by unfold cutK; split <;> exact ⟨rfl, rfl, rfl⟩
  exact ⟨by rw [e.1]; exact this.k, by rw [e.2.1]; exact this.n, by rw [e.2.2]; exact this.lo⟩
/-- A message that was cut stays readable while the net, and the row of what was sent, change. -/
theorem cut_stays {w0 W2 w3 W6 : World} {m : MsgV} {tA oB : Option Addr} {tc od : Nat} {F : Nat → Prop} {sv : Value} (hn : NumsAt w0 (.slice tA (cutM m).tl.length tc) (cutM m).tl) (hro : RowN w3 W2.heap.size 4 (.slice oB (cutM m).os.length od) (cutM m).os.length (opC (cutM m).os))
    (h02 : Below w0.heap.size w0 W6) (h36 : ∀ k, W2.heap.size ≤ k → k < w3.heap.size → W6.heap[k]? = w3.heap[k]?) (hs36 : w3.heap.size ≤ W6.heap.size) (hF : ∀ k, W2.heap.size ≤ k → k < w3.heap.size → F k) (hsv : ∀ k, sv.ownBlock = some k → w0.heap.size ≤ k ∧ k < W2.heap.size) :
    ∀ W', Touch (OrdT w0 F sv) W6 W' → MsgIs W' (.agg (cellM (cutM m) tA tc oB od)) (cutM m) := fun W' hW => by
  have hb : Below w0.heap.size w0 W' := h02.trans (hW.below (fun i e => by
    rcases e with e | e
    · exact e.1
    · exact (hsv i e).1) h02.size)
  have hlt : ∀ k, (Value.slice oB (cutM m).os.length od).ownBlock = some k → k < w3.heap.size := fun k hk => by
    rcases hro.1 with ⟨e, _⟩ | ⟨g, cap, e, _, _, hr⟩
    · rw [e] at hk; cases hk
    · rw [e] at hk; cases hk; exact hr.lt
  have h37 : ∀ k, W2.heap.size ≤ k → k < w3.heap.size → W'.heap[k]? = w3.heap[k]? := fun k h1 h2 => (hW.block k (Nat.lt_of_lt_of_le h2 hs36) (fun e => by
    rcases e with e | e
    · exact e.2 (hF k h1 h2)
    · have := (hsv k e).2; omega)).trans (h36 k h1 h2)
  refine ⟨tA, tc, oB, od, rfl, hn.below hb, RowIs.ops (w := W') ?_ rfl, nkeys_cut m⟩
  rcases hro.1 with ⟨e, h1, h2⟩ | ⟨g, cap, e, h1, h2, hr⟩
  · exact .inl ⟨e, h1, h2⟩
  · have hg := hro.2.1 g (by rw [e]; rfl)
    exact .inr ⟨g, cap, e, h1, h2, hr.keep (Nat.le_trans hs36 hW.size) (h37 g hg.1 hr.lt)⟩
end Go.Proofs.YtfddlhcdlgdofaaGreatDoor
