/- Prune's question; slices.IndexFunc. -/
import Derived.Test.YtmaokoekbjjgfaaDoorZChbB
set_option linter.unusedSimpArgs false
set_option linter.unusedVariables false
set_option linter.unnecessarySimpa false
namespace Go.Proofs.YtmaokoekbjjgfaaDoor
open Go.RowKit Go.Shelf

/-- What Prune takes away. -/
def goneV (last : Int) (u : Ver) : Bool := !u.opn && decide (u.at_ < last)
set_option maxRecDepth 100000 in
set_option maxHeartbeats 1000000 in
theorem gone_any {W : World} {b : Nat} {last : Int} (u : Ver) (h : W.cell? ⟨b, 0, none⟩ = some (.int .i64 last)) :
    Calls Tryd.prog 35 #[.agg #[.int .i64 u.at_, .int .i64 u.n, .bool u.there, .int .i64 u.read, .bool u.opn], .pointer (some ⟨b, 0, none⟩)] W fun e w' => e = .returned (.bool (goneV last u)) ∧ Below W.heap.size W w' := by
  have hbl := World.block_lt_of_cell? _ _ h
  have hb : b < W.heap.size := hbl
  have h1 : (W.alloc (.cells #[.int .i64 u.at_, .int .i64 u.n, .bool u.there, .int .i64 u.read, .bool u.opn] 47)).cell? ⟨b, 0, none⟩ = some (.int .i64 last) := ((below_new _).cell (p := ⟨b, 0, none⟩) hb).trans h
  have hz := alloc_at W (.cells #[.int .i64 u.at_, .int .i64 u.n, .bool u.there, .int .i64 u.read, .bool u.opn] 47)
  have c0 : (W.alloc (.cells #[.int .i64 u.at_, .int .i64 u.n, .bool u.there, .int .i64 u.read, .bool u.opn] 47)).cell? ⟨W.heap.size, 0, none⟩ = some (.int .i64 u.at_) := cell_of hz 0
  have c4 : (W.alloc (.cells #[.int .i64 u.at_, .int .i64 u.n, .bool u.there, .int .i64 u.read, .bool u.opn] 47)).cell? ⟨W.heap.size, 4, none⟩ = some (.bool u.opn) := cell_of hz 4
  have HB := Lib.hid (below_new (w := W) (.cells #[.int .i64 u.at_, .int .i64 u.n, .bool u.there, .int .i64 u.read, .bool u.opn] 47))
  obtain ⟨ua, un, ut, ur, uo⟩ := u
  cases uo
  · have HG : Hid (goneV last ⟨ua, un, ut, ur, false⟩ = decide (ua < last)) := Lib.hid rfl
    rw [HG.out]
    clear hz h hbl
    go_enter Tryd.func35, Tryd.ntmps35
    go_wp2_with fail
    go_ret
    exact ⟨rfl, HB.out⟩
  · have HG : Hid (goneV last ⟨ua, un, ut, ur, true⟩ = false) := Lib.hid rfl
    rw [HG.out]
    clear hz h hbl
    go_enter Tryd.func35, Tryd.ntmps35
    go_wp2_with fail
    go_ret
    exact ⟨rfl, HB.out⟩
set_option maxRecDepth 100000 in
set_option maxHeartbeats 2000000 in
theorem index_any {w : World} {L : List Ver} {g cap b : Nat} {last : Int} (h : RowIs w 5 (.slice (some ⟨g, 0, none⟩) L.length cap) L.length (verC L)) (hl : L.length ≤ 1000000) (hb : w.cell? ⟨b, 0, none⟩ = some (.int .i64 last)) :
    Calls Tryd.prog 46 #[.slice (some ⟨g, 0, none⟩) L.length cap, .func (.func 35) #[] #[.pointer (some ⟨b, 0, none⟩)]] w fun e w' => ∃ r : Int, e = .returned (.int .i64 r) ∧ Below w.heap.size w w' ∧
      ((r = -1 ∧ ∀ v ∈ L, goneV last v = false) ∨ ∃ k : Nat, k < L.length ∧ r = k ∧ (∀ u, L[k]? = some u → goneV last u = true) ∧ ∀ j, j < k → ∀ v, L[j]? = some v → goneV last v = false) := by
  have hlI : (L.length : Int) ≤ 1000000 := by omega
  have HR := Lib.hid h
  have HC := Lib.hid hb
  have hbl : b < w.heap.size := World.block_lt_of_cell? _ _ hb
  have HBL := Lib.hid hbl
  clear h hb hbl
  go_enter Tryd.func46, Tryd.ntmps46
  go_wp2_with fail
  go_loopw [8] (fun iv wr => ∃ k : Nat, k ≤ L.length ∧ iv = .int .i64 k ∧ Below w.heap.size w wr ∧ ∀ j, j < k → ∀ v, L[j]? = some v → goneV last v = false) (fun iv _ => L.length - (intOf iv).toNat)
  case atStart => exact ⟨0, Nat.zero_le _, rfl, Below.refl _ _, fun j hj => by omega⟩
  case round =>
    obtain ⟨k, hk, rfl, hbw, hno⟩ := hrel
    have HB := Lib.hid hbw
    have HNO := Lib.hid hno
    by_cases hlt : k < L.length
    · have hx : L[k]? = some L[k] := List.getElem?_eq_getElem hlt
      generalize L[k] = y at hx
      obtain ⟨g', cap', ev, hc1, hc2, _, c0, c1, c2, c3, c4⟩ := (HR.out.below hbw).ver hx
      injection ev with ev _ ev3
      injection ev with ev
      injection ev with ev _ _
      subst ev
      subst ev3
      have hki : (k : Int) < (L.length : Int) := by omega
      have HG := Lib.hid (gone_any y ((hbw.cell (p := ⟨b, 0, none⟩) HBL.out).trans HC.out))
      have HX := Lib.hid hx
      have HLT := Lib.hid hlt
      clear hx hk hbw hno hc1 hc2 hlt
      cases hgn : goneV last y with
      | true =>
        rw [hgn] at HG
        have HGN := Lib.hid hgn
        clear hgn
        go_wp2_with fail
        refine (HG.out).mono ?_
        rintro e w2 ⟨rfl, hb2⟩
        have HB2 := Lib.hid (HB.out.trans (hb2.mono HB.out.size))
        clear hb2 HG
        go_wp2_with fail
        go_ret
        exact ⟨_, rfl, HB2.out, .inr ⟨k, HLT.out, rfl, fun u hu => by rw [HX.out] at hu; injection hu with hu; rw [← hu]; exact HGN.out, HNO.out⟩⟩
      | false =>
        rw [hgn] at HG
        have HGN := Lib.hid hgn
        clear hgn
        go_wp2_with fail
        refine (HG.out).mono ?_
        rintro e w2 ⟨rfl, hb2⟩
        have HB2 := Lib.hid (HB.out.trans (hb2.mono HB.out.size))
        clear hb2 HG
        go_wp2_with fail
        go_roundw
        case rel => exact ⟨k + 1, HLT.out, by go_num, HB2.out, fun j hj v hv => by
          by_cases e : j = k
          · subst e; rw [HX.out] at hv; injection hv with hv; rw [← hv]; exact HGN.out
          · exact HNO.out j (by omega) v hv⟩
        case measure => have := HLT.out; simp [intOf]; omega
    · obtain rfl : k = L.length := by omega
      clear hlt hk hbw hno
      go_wp2_with fail
      go_ret
      exact ⟨-1, rfl, HB.out, .inl ⟨rfl, fun v hv => by
        obtain ⟨j, hj⟩ := List.getElem?_of_mem hv
        exact HNO.out j (List.getElem?_eq_some_iff.1 hj).1 v hj⟩⟩
end Go.Proofs.YtmaokoekbjjgfaaDoor
