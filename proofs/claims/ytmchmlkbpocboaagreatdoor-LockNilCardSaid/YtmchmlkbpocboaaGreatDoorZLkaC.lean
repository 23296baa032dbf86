/- lock: Release. -/
import Derived.Test.YtmchmlkbpocboaaGreatDoorZLkaA
set_option linter.unusedSimpArgs false
set_option linter.unusedVariables false
set_option linter.unnecessarySimpa false
namespace Go.Proofs.YtmchmlkbpocboaaGreatDoor
open Go.RowKit
open Go.Maps (Keyed)

/-- While the keys of one are struck and served: k of them are done. -/
structure RelR (w wr : World) (tb gl gw : Nat) (ro : Nat → Nat) (T0 : Tb) (who : Int) (ks : List KeyT) (k : Nat) (L : List Le) (WT : List Wt) (ro' : Nat → Nat) (sv : List Int) (A : Option Addr) (c : Nat) : Prop where
  tab : TbAt wr tb gl gw L WT ro'
  eq : (tbOf L WT, sv) = (ks.take k).foldl (relStepP who) (T0, [])
  step : TStep w wr ro ro'
  row : RowIs wr 1 (.slice A sv.length c) sv.length (ints sv)
  own : ∀ g, (Value.slice A sv.length c).ownBlock = some g → w.heap.size ≤ g ∧ ro' g = 0
  todo : ∀ i x, k ≤ i → ks[i]? = some x → laneP (tbOf L WT) x = laneP T0 x
  few : sv.length ≤ k * 1000
  nums : ∀ y ∈ sv, InR64 y
theorem relStep_at {T : Tb} {who : Int} {sv : List Int} {k : KeyT} {l : Ln} (h : laneP T k = some l) : relStepP who (T, sv) k = (if (relLane l who).1.held = [] then delLane T k else setLane T k (relLane l who).1, sv ++ (relLane l who).2) := by
  unfold relStepP
  simp only [h]
/-- What a lane leaves that is struck and served. -/
theorem TbAt.relLane {w w2 : World} {tb gl gw : Nat} {L : List Le} {WT : List Wt} {ro : Nat → Nat} (h : TbAt w tb gl gw L WT ro) {j : Nat} {x : Le} (hj : L[j]? = some x) {who : Int} {w1 : World} {rv1 : Value} (h1 : LnAt w1 x.b x.gh rv1 (strikeP x.l who)) (ht1 : Touch (fun k => k = x.b ∨ k = x.gh ∨ x.rv.ownBlock = some k) w w1) (ho1 : rv1.ownBlock = x.rv.ownBlock) {e : Ending} (h2 : ServeP w1 x.b x.gh rv1 (serveP (strikeP x.l who).row.length (strikeP x.l who)) e w2) :
    ∃ rv2 ro2 A n c, e = .returned (.slice A (Proofs.YtmchmlkbpocboaaGreatDoor.relLane x.l who).2.length c) ∧ n = 0 ∧ RowIs w2 1 (.slice A (Proofs.YtmchmlkbpocboaaGreatDoor.relLane x.l who).2.length c) (Proofs.YtmchmlkbpocboaaGreatDoor.relLane x.l who).2.length (ints (Proofs.YtmchmlkbpocboaaGreatDoor.relLane x.l who).2) ∧ (∀ g, (Value.slice A (Proofs.YtmchmlkbpocboaaGreatDoor.relLane x.l who).2.length c).ownBlock = some g → w.heap.size ≤ g) ∧ TbAt w2 tb gl gw (L.set j { x with rv := rv2, l := (Proofs.YtmchmlkbpocboaaGreatDoor.relLane x.l who).1 }) WT ro2 ∧ TStep w w2 ro ro2 ∧ LnAt w2 x.b x.gh rv2 (Proofs.YtmchmlkbpocboaaGreatDoor.relLane x.l who).1 := by
  rw [← relLane_eq] at h2
  obtain ⟨rv2, A, n, c, rfl, a1, a2, a3, a4, a5⟩ := h2
  have hn : n = (Proofs.YtmchmlkbpocboaaGreatDoor.relLane x.l who).2.length := by
    rcases a1 with ⟨e1, e2, _⟩ | ⟨g, cap, e1, _⟩
    · injection e1 with _ e1 _
      rw [e1, e2]
    · injection e1 with _ e1 _
  subst hn
  have ht := ht1.trans a4 (fun k _ e => e.elim .inl (fun e => .inr (.inl e)))
  obtain ⟨ro2, b1, b2⟩ := h.lane hj ht a3 (.inl (a5.trans ho1))
  exact ⟨rv2, ro2, A, 0, c, rfl, rfl, a1, fun g hg => Nat.le_trans ht1.size (a2 g hg), b1, b2, a3⟩
/-- What Release leaves, and tells. -/
def RelQ (w : World) (tb gl gw : Nat) (ro : Nat → Nat) (T : Tb) (who : Int) (e : Ending) (w' : World) : Prop := ∃ ks A c, KeysOf T who ks ∧ e = .returned (.slice A (relP T who ks).2.length c) ∧ RowIs w' 1 (.slice A (relP T who ks).2.length c) (relP T who ks).2.length (ints (sortedI (relP T who ks).2)) ∧ (∀ g, (Value.slice A (relP T who ks).2.length c).ownBlock = some g → w.heap.size ≤ g) ∧ TbTo w tb gl gw ro (relP T who ks).1 w'
theorem serve_len : ∀ (n : Nat) (l : Ln), (serveP n l).2.length ≤ l.row.length
  | 0, l => Nat.zero_le _
  | n + 1, l => by
    unfold serveP
    cases hr : l.row with
    | nil => simp
    | cons c r =>
      simp only
      split
      · have := serve_len n (giveP { l with row := r } c)
        have e : (giveP { l with row := r } c).row = r := rfl
        rw [e] at this
        simp only [List.length_cons]
        omega
      · simp
theorem serve_mem : ∀ (n : Nat) (l : Ln) (y : Int), y ∈ (serveP n l).2 → ∃ c ∈ l.row, c.who = y
  | 0, l, y, h => by cases h
  | n + 1, l, y, h => by
    unfold serveP at h
    cases hr : l.row with
    | nil => rw [hr] at h; cases h
    | cons c r =>
      rw [hr] at h
      simp only at h
      split at h
      · rcases List.mem_cons.1 h with rfl | h
        · exact ⟨c, List.mem_cons_self .., rfl⟩
        · obtain ⟨d, hd, e⟩ := serve_mem n _ y h
          exact ⟨d, List.mem_cons_of_mem _ hd, e⟩
      · cases h
theorem relLane_mem {l : Ln} {who y : Int} (h : y ∈ (relLane l who).2) : ∃ c ∈ l.row, c.who = y := by
  obtain ⟨c, hc, e⟩ := serve_mem _ _ y h
  exact ⟨c, (List.mem_filter.1 hc).1, e⟩
theorem relLane_len (l : Ln) (who : Int) : (relLane l who).2.length ≤ l.row.length := by
  unfold relLane
  refine Nat.le_trans (serve_len _ _) (List.length_filter_le _ _)
/-- While those served are taken out of the waits. -/
structure RelW (w wr : World) (tb gl gw : Nat) (ro : Nat → Nat) (L : List Le) (WT : List Wt) (sv : List Int) (i : Nat) (WT' : List Wt) : Prop where
  tab : TbAt wr tb gl gw L WT' ro
  eq : tbOf L WT' = noWait (tbOf L WT) (sv.take i)
  touch : Touch (fun k => k = gw) w wr
end Go.Proofs.YtmchmlkbpocboaaGreatDoor
