/- The document's own Decode of messages answers as the program's, in plain words. The document's own net in memory: Deliver. -/
import Derived.Test.YtmbonngjkgcijaaGreatDoorZMeiC
import Derived.Test.YtmbonngjkgcijaaGreatDoorZNetP
set_option linter.unusedSimpArgs false
set_option linter.unusedVariables false
set_option linter.unnecessarySimpa false
namespace Go.Proofs.YtmbonngjkgcijaaGreatDoor
open Go.RowKit Go.Shelf

theorem decRB_in {bd : List UInt8} {m : MsgV} (h : decRB bd = some m) : MsgIn m := by
  unfold decRB at h
  obtain ⟨a, s1, ha⟩ : ∃ a s, hdS bd 10 (some 0) = (a, s) := ⟨_, _, rfl⟩
  have hlen : a.length = 10 := by have := hdS_len bd 10 (some 0); rw [ha] at this; exact this
  rw [ha] at h
  simp only at h
  have hle := hdS_le bd (manyS a) s1
  obtain ⟨ns, s2, hns⟩ : ∃ n s, hdS bd (manyS a) s1 = (n, s) := ⟨_, _, rfl⟩
  rw [hns] at h hle
  simp only at h hle
  split at h
  · cases h
  · rename_i l hl
    split at h
    · obtain rfl := Option.some.inj h
      match a, hlen with
      | [a0, a1, a2, a3, a4, a5, a6, a7, a8, a9], _ =>
        refine ⟨fun x hx => ?_, fun o ho => ((decO_only hl).2.2 o ho).2⟩
        obtain ⟨y, hy, rfl⟩ := List.mem_map.1 (show x ∈ ns.map numV from hx)
        exact numV_in (hle y hy)
    · cases h
theorem decR_eq (bs : List UInt8) : decR bs = decM bs := by
  cases h : decM bs with
  | some m =>
    obtain ⟨rfl, h1, h2⟩ := decM_only h
    have hl := bodyM_le h1 h2
    have h3 := firstP_frame (l := bodyM m) (by omega) []
    rw [List.append_nil] at h3
    have h4 : firstP (encM m) = (bodyM m).length + 7 := h3
    have h5 : (encM m).length = (bodyM m).length + 7 := frameB_len _
    have h6 : bodyP (encM m) = bodyM m := bodyP_frame (by omega)
    unfold decR
    rw [if_pos ⟨by omega, by omega⟩, h6, decRB_back h1 h2]
    simp only
    rw [if_pos ⟨h1, trivial⟩]
  | none =>
    cases h2 : decR bs with
    | none => rfl
    | some m =>
      exfalso
      unfold decR at h2
      split at h2
      · split at h2
        · cases h2
        · rename_i m' hm'
          split at h2
          · rename_i hc
            have := decM_back hc.1 (decRB_in hm')
            rw [hc.2, h] at this
            cases this
          · cases h2
      · cases h2
end Go.Proofs.YtmbonngjkgcijaaGreatDoor

namespace Go.Proofs.YtmbonngjkgcijaaGreatDoor
open Go.RowKit Go.Shelf
/-- The message of nothing. -/
def zM : MsgV := ⟨0, 0, 0, 0, 0, 0, 0, 0, 0, [], []⟩
theorem zM_is (W : World) : MsgIs W (.agg (cellM zM none 0 none 0)) zM := ⟨none, 0, none, 0, rfl, NumsAt.nil _, OpsAt.nil _, fun o h => by cases h⟩
section
variable {w : World} {r : Nat} {v : Value} {most : Int} {ct : Nat → Bool}
/-- A named result's box is set, and answered. -/
theorem box_end {W : World} {b : Nat} {m : MsgV} {tA oA : Option Addr} {tc oc : Nat} {T : TypeId} (h : W.heap[b]? = some (.cells zeroC T (0, 0))) :
    ∃ W', W' = W.setCells b 0 (cellM m tA tc oA oc).toList ∧ W'.heap[b]? = some (.cells (cellM m tA tc oA oc) T (0, 0)) ∧ Touch (fun k => k = b) W W' := by
  have h1 := setCells_at b (cellM m tA tc oA oc).toList [] zeroC.toList W rfl h
  simp only [List.length_nil, List.nil_append] at h1
  exact ⟨_, rfl, h1, setCells_touch (S := fun k => k = b) (a := W) b (fun _ => rfl) (cellM m tA tc oA oc).toList 0 W (Touch.refl _ _)⟩
set_option maxRecDepth 100000 in
set_option maxHeartbeats 4000000 in
theorem rndel_none {L : List RP} (h : RNt w r v most L ct) {i : Int} (hi : ¬ (0 ≤ i ∧ i < (L.length : Int))) :
    Calls Tryz.prog 50 #[.pointer (some ⟨r, 0, none⟩), .int .i64 i] w fun e w' => e = .returned (.tuple #[.agg (cellM zM none 0 none 0), .int .i64 3]) ∧ Below w.heap.size w w' := by
  have hb0 := below_new (w := w) (.cells zeroC 37)
  have hat0 := alloc_at w (.cells zeroC 37)
  obtain ⟨W0, hW0⟩ : ∃ W, W = w.alloc (.cells zeroC 37) := ⟨_, rfl⟩
  rw [← hW0] at hb0 hat0
  obtain ⟨vA, cp, hv, _⟩ := id (RowIs.form h.row)
  have kr : W0.cell? ⟨r, 1, none⟩ = some (.slice vA L.length cp) := (cell_of (h.below hb0).head 1).trans (congrArg some hv)
  have HW0 := Lib.hid hW0
  have HA0 := Lib.hid (And.intro hat0 hb0)
  have hz := box_end (m := zM) (tA := none) (oA := none) (tc := 0) (oc := 0) hat0
  have HZ := Lib.hid hz
  have hcs : (i < 0) ∨ (¬ i < 0 ∧ (L.length : Int) ≤ i) := by omega
  clear h hb0 hat0 hW0 hv hz hi
  go_enter Tryz.func50, Tryz.ntmps50
  go_upto_region 1 with fail
  change Code.wp _ _ _ _ (World.alloc w (.cells zeroC 37))
  rw [← HW0.out]
  obtain ⟨W6, hW6, h6, hT6⟩ := HZ.out
  have c0 := cell_of HA0.out.1 0; have c1 := cell_of HA0.out.1 1; have c2 := cell_of HA0.out.1 2; have c3 := cell_of HA0.out.1 3; have c4 := cell_of HA0.out.1 4; have c5 := cell_of HA0.out.1 5; have c6 := cell_of HA0.out.1 6; have c7 := cell_of HA0.out.1 7; have c8 := cell_of HA0.out.1 8; have c9 := cell_of HA0.out.1 9; have c10 := cell_of HA0.out.1 10
  simp at c0 c1 c2 c3 c4 c5 c6 c7 c8 c9 c10
  have f0 := free0 HA0.out.1 0; have f1 := free0 HA0.out.1 1; have f2 := free0 HA0.out.1 2; have f3 := free0 HA0.out.1 3; have f4 := free0 HA0.out.1 4; have f5 := free0 HA0.out.1 5; have f6 := free0 HA0.out.1 6; have f7 := free0 HA0.out.1 7; have f8 := free0 HA0.out.1 8; have f9 := free0 HA0.out.1 9; have f10 := free0 HA0.out.1 10
  rcases hcs with hlt | ⟨hnl, hge⟩
  · have q1 : decide (i < 0) = true := decide_eq_true hlt
    clear hlt
    go_wp2_with fail
    change bodyPost _ _ _ _ _ (World.setCells _ w.heap.size 0 (cellM zM none 0 none 0).toList)
    rw [← hW6]
    clear c0 c1 c2 c3 c4 c5 c6 c7 c8 c9 c10 f0 f1 f2 f3 f4 f5 f6 f7 f8 f9 f10
    have j0 := cell_of h6 0; have j1 := cell_of h6 1; have j2 := cell_of h6 2; have j3 := cell_of h6 3; have j4 := cell_of h6 4; have j5 := cell_of h6 5; have j6 := cell_of h6 6; have j7 := cell_of h6 7; have j8 := cell_of h6 8; have j9 := cell_of h6 9; have j10 := cell_of h6 10
    simp at j0 j1 j2 j3 j4 j5 j6 j7 j8 j9 j10
    refine bodyPost_ret (v := .tuple #[.agg (cellM zM none 0 none 0), .int .i64 3]) (by simp [results, Tryz.results50, go_sem, j0, j1, j2, j3, j4, j5, j6, j7, j8, j9, j10]) rfl ?_
    exact ⟨rfl, HA0.out.2.trans (hT6.below (fun i e => by rw [e]; exact Nat.le_refl _) HA0.out.2.size)⟩
  · have q1 : decide (i < 0) = false := decide_eq_false hnl
    have q2 : decide (i ≥ (L.length : Int)) = true := decide_eq_true hge
    clear hnl hge
    go_wp2_with fail
    change bodyPost _ _ _ _ _ (World.setCells _ w.heap.size 0 (cellM zM none 0 none 0).toList)
    rw [← hW6]
    clear c0 c1 c2 c3 c4 c5 c6 c7 c8 c9 c10 f0 f1 f2 f3 f4 f5 f6 f7 f8 f9 f10
    have j0 := cell_of h6 0; have j1 := cell_of h6 1; have j2 := cell_of h6 2; have j3 := cell_of h6 3; have j4 := cell_of h6 4; have j5 := cell_of h6 5; have j6 := cell_of h6 6; have j7 := cell_of h6 7; have j8 := cell_of h6 8; have j9 := cell_of h6 9; have j10 := cell_of h6 10
    simp at j0 j1 j2 j3 j4 j5 j6 j7 j8 j9 j10
    refine bodyPost_ret (v := .tuple #[.agg (cellM zM none 0 none 0), .int .i64 3]) (by simp [results, Tryz.results50, go_sem, j0, j1, j2, j3, j4, j5, j6, j7, j8, j9, j10]) rfl ?_
    exact ⟨rfl, HA0.out.2.trans (hT6.below (fun i e => by rw [e]; exact Nat.le_refl _) HA0.out.2.size)⟩
end
end Go.Proofs.YtmbonngjkgcijaaGreatDoor
