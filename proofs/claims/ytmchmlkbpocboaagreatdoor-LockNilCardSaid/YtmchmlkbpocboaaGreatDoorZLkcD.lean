/- lock: the chapter's example. -/
import Derived.Test.YtmchmlkbpocboaaGreatDoorZLkcC
import Derived.Test.YtmchmlkbpocboaaGreatDoorZLokN
set_option linter.unusedSimpArgs false
set_option linter.unusedVariables false
set_option linter.unnecessarySimpa false
namespace Go.Proofs.YtmchmlkbpocboaaGreatDoor
open Go.RowKit
open Go.Maps (Keyed)

def xA : KeyT := [97]
def xT5 : Tb := ⟨[(xA, ⟨[1, 2], false, [⟨1, true⟩, ⟨3, true⟩, ⟨4, false⟩]⟩)], [(3, (xA, true)), (4, (xA, false)), (1, (xA, true))]⟩
def xT1 : Tb := (askP tb0 1 xA false).2
def xT2 : Tb := (askP xT1 2 xA false).2
def xT3 : Tb := (askP xT2 3 xA true).2
def xT4 : Tb := (askP xT3 4 xA false).2
theorem xt5 : (askP xT4 1 xA true).2 = xT5 := by rfl
theorem xa : (askP tb0 1 xA false).1 = 0 ∧ (askP xT1 2 xA false).1 = 0 ∧ (askP xT2 3 xA true).1 = 20 ∧ (askP xT3 4 xA false).1 = 20 ∧ (askP xT4 1 xA true).1 = 20 := ⟨rfl, rfl, rfl, rfl, rfl⟩
theorem few0 : FewT 200 tb0 := ⟨by decide, by decide, fun e he => by cases he⟩
theorem few1 : FewT 200 xT1 := ⟨by decide, by decide, by decide⟩
theorem few2 : FewT 200 xT2 := ⟨by decide, by decide, by decide⟩
theorem few3 : FewT 200 xT3 := ⟨by decide, by decide, by decide⟩
theorem few4 : FewT 200 xT4 := ⟨by decide, by decide, by decide⟩
theorem few5 : FewT 200 xT5 := ⟨by decide, by decide, by decide⟩
theorem FewT.up {n m : Nat} {T : Tb} (h : FewT n T) (hm : n ≤ m) : FewT m T := ⟨Nat.le_trans h.1 hm, Nat.le_trans h.2.1 hm, fun e he => Nat.le_trans (h.2.2 e he) hm⟩
def xE : List Eg := [(1, 2), (3, 1), (3, 2), (4, 1), (4, 3)]
theorem xedges {E : List Eg} (h1 : E.Pairwise ltE) (h2 : ∀ x, x ∈ E ↔ ∃ kl ∈ xT5.lanes, x ∈ edgesP kl.2) : E = xE := by
  refine edges_uniq h1 (by simp [xE, ltE]) (fun y => ?_)
  rw [h2 y]
  constructor
  · rintro ⟨kl, hkl, h⟩
    have : kl = (xA, ⟨[1, 2], false, [⟨1, true⟩, ⟨3, true⟩, ⟨4, false⟩]⟩) := by simpa [xT5] using hkl
    subst this
    have e : edgesP (⟨[1, 2], false, [⟨1, true⟩, ⟨3, true⟩, ⟨4, false⟩]⟩ : Ln) = [(1, 2), (3, 1), (3, 2), (3, 1), (4, 1), (4, 3)] := rfl
    rw [e] at h
    simp only [List.mem_cons, List.not_mem_nil, or_false] at h
    simp only [xE, List.mem_cons, List.not_mem_nil, or_false]
    rcases h with h | h | h | h | h | h <;> simp [h]
  · intro h
    refine ⟨(xA, ⟨[1, 2], false, [⟨1, true⟩, ⟨3, true⟩, ⟨4, false⟩]⟩), by simp [xT5], ?_⟩
    have e : edgesP (⟨[1, 2], false, [⟨1, true⟩, ⟨3, true⟩, ⟨4, false⟩]⟩ : Ln) = [(1, 2), (3, 1), (3, 2), (3, 1), (4, 1), (4, 3)] := rfl
    show y ∈ edgesP (⟨[1, 2], false, [⟨1, true⟩, ⟨3, true⟩, ⟨4, false⟩]⟩ : Ln)
    rw [e]
    simp only [xE, List.mem_cons, List.not_mem_nil, or_false] at h
    simp only [List.mem_cons, List.not_mem_nil, or_false]
    rcases h with h | h | h | h | h <;> simp [h]
theorem xkeys5 {ks : List KeyT} (h : KeysOf xT5 2 ks) : ks = [xA] := by
  refine rising_uniq keyO h.1 (List.pairwise_singleton _ _) (fun k => ?_)
  rw [h.2 k, List.mem_singleton]
  constructor
  · rintro ⟨l, hl, _⟩
    unfold laneP xT5 at hl
    by_cases e : k = xA
    · exact e
    · have e2 : ¬ xA = k := fun q => e q.symm
      simp [e2] at hl
  · rintro rfl
    exact ⟨_, rfl, .inl (by simp)⟩
def xT6 : Tb := (relP xT5 2 [xA]).1
theorem few6 : FewT 200 xT6 := ⟨by decide, by decide, by decide⟩
theorem xrel : (relP xT5 2 [xA]).2 = [1] := by rfl
theorem xkeys6 {ks : List KeyT} (h : KeysOf xT6 1 ks) : ks = [xA] := by
  have e6 : xT6 = ⟨[(xA, ⟨[1], true, [⟨3, true⟩, ⟨4, false⟩]⟩)], [(3, (xA, true)), (4, (xA, false))]⟩ := by rfl
  rw [e6] at h
  refine rising_uniq keyO h.1 (List.pairwise_singleton _ _) (fun k => ?_)
  rw [h.2 k, List.mem_singleton]
  constructor
  · rintro ⟨l, hl, _⟩
    unfold laneP at hl
    by_cases e : k = xA
    · exact e
    · have e2 : ¬ xA = k := fun q => e q.symm
      simp [e2] at hl
  · rintro rfl
    exact ⟨_, rfl, .inl (by simp)⟩
theorem xheld : heldOf xT6 1 [xA] = [(xA, true)] := by rfl
theorem xsort : sortedI [1] = [1] := by
  have h := sortedI_perm [1]
  exact List.perm_singleton.1 h
set_option maxRecDepth 100000 in
set_option maxHeartbeats 4000000 in
theorem awake_any {w : World} (hG : Glob w) : Calls Tryz.prog 13 #[] w fun e w' => e = .returned (.bool true) ∧ Below w.heap.size w w' := by
  have HN := Lib.hid (New_any hG)
  clear hG
  have HXA : Hid (strV xA = .string { data := #[97] }) := Lib.hid rfl
  go_enter Tryz.func13, Tryz.ntmps13
  go_wp2_with fail
  refine (HN.out).mono ?_
  rintro e w0 ⟨rfl, ⟨r0, h0⟩, hb0⟩
  have HB0 := Lib.hid hb0
  obtain ⟨tb, htb⟩ : ∃ tb, w.heap.size + 2 = tb := ⟨_, rfl⟩
  obtain ⟨gw, hgw⟩ : ∃ gw, w.heap.size + 1 = gw := ⟨_, rfl⟩
  obtain ⟨B, hB⟩ : ∃ B, w.heap.size = B := ⟨_, rfl⟩
  rw [htb, hgw] at h0
  rw [htb]
  rw [hB] at h0 HB0
  have HBE := Lib.hid hB
  have A1 := Lib.hid (ask_h h0 (few0.up (by decide)) 1 xA false (by unfold InR64; decide) (by decide))
  rw [HXA.out, xa.1] at A1
  clear hb0 h0 htb hgw hB
  go_wp2_with fail
  refine (A1.out).mono ?_
  rintro e w1 ⟨rfl, r1, h1, _, hb1⟩
  have A2 := Lib.hid (ask_h (T := xT1) h1 (few1.up (by decide)) 2 xA false (by unfold InR64; decide) (by decide))
  rw [HXA.out, xa.2.1] at A2
  have HB1 := Lib.hid (HB0.out.trans hb1)
  clear h1 hb1
  go_wp2_with fail
  refine (A2.out).mono ?_
  rintro e w2 ⟨rfl, r2, h2, _, hb2⟩
  have A3 := Lib.hid (ask_h (T := xT2) h2 (few2.up (by decide)) 3 xA true (by unfold InR64; decide) (by decide))
  rw [HXA.out, xa.2.2.1] at A3
  have HB2 := Lib.hid (HB1.out.trans hb2)
  clear h2 hb2
  go_wp2_with fail
  refine (A3.out).mono ?_
  rintro e w3 ⟨rfl, r3, h3, _, hb3⟩
  have A4 := Lib.hid (ask_h (T := xT3) h3 (few3.up (by decide)) 4 xA false (by unfold InR64; decide) (by decide))
  rw [HXA.out, xa.2.2.2.1] at A4
  have HB3 := Lib.hid (HB2.out.trans hb3)
  clear h3 hb3
  go_wp2_with fail
  refine (A4.out).mono ?_
  rintro e w4 ⟨rfl, r4, h4, _, hb4⟩
  have A5 := Lib.hid (ask_h (T := xT4) h4 (few4.up (by decide)) 1 xA true (by unfold InR64; decide) (by decide))
  rw [HXA.out, xa.2.2.2.2, xt5] at A5
  have HB4 := Lib.hid (HB3.out.trans hb4)
  clear h4 hb4
  go_wp2_with fail
  refine (A5.out).mono ?_
  rintro e w5 ⟨rfl, r5, h5, _, hb5⟩
  have HB5 := Lib.hid (HB4.out.trans hb5)
  have HH5 := Lib.hid h5
  have HE := Lib.hid (edges_h h5 few5)
  clear h5 hb5
  go_wp2_with fail
  refine (HE.out).mono ?_
  rintro e w6 ⟨A6, c6, E, rfl, hr6, ho6, hp6, hm6, hb6⟩
  obtain rfl := xedges hp6 hm6
  have HH6 := Lib.hid (HH5.out.below hb6)
  have HB6 := Lib.hid (HB5.out.trans (hb6.mono (Nat.le_trans (Nat.le_of_eq HBE.out.symm) HB5.out.size)))
  have HRE := Lib.hid (release_h HH6.out (few5.up (by decide)) 2 (by unfold InR64; decide))
  obtain ⟨_, _, e6, _, _, _, _, k6⟩ := id hr6.form
  cases e6
  obtain ⟨g6, rfl, k0⟩ := k6 0 (.int .i64 1) rfl
  have k1 : w6.cell? ⟨g6, 1, none⟩ = some (.int .i64 2) := by obtain ⟨g, e, k⟩ := k6 1 (.int .i64 2) rfl; cases e; exact k
  have k8 : w6.cell? ⟨g6, 8, none⟩ = some (.int .i64 4) := by obtain ⟨g, e, k⟩ := k6 8 (.int .i64 4) rfl; cases e; exact k
  have k9 : w6.cell? ⟨g6, 9, none⟩ = some (.int .i64 3) := by obtain ⟨g, e, k⟩ := k6 9 (.int .i64 3) rfl; cases e; exact k
  have hxl : xE.length = 5 := rfl
  rw [hxl]
  clear hr6 ho6 hp6 hm6 hb6 k6 hxl HE
  go_wp2_with fail
  refine (HRE.out).mono ?_
  rintro e w7 ⟨ks, A7, c7, hks, rfl, hr7, ho7, r7, h7, _, hb7⟩
  obtain rfl := xkeys5 hks
  rw [xrel, xsort] at hr7
  rw [xrel]
  have HB7 := Lib.hid (HB6.out.trans hb7)
  have HHO := Lib.hid (holds_h (T := xT6) h7 (few6.up (by decide)) 1 (by unfold InR64; decide))
  obtain ⟨_, _, e7, _, _, _, _, k7⟩ := id hr7.form
  cases e7
  obtain ⟨g7, rfl, j0⟩ := k7 0 (.int .i64 1) rfl
  have J0 := Lib.hid j0
  clear hks hr7 ho7 h7 hb7 k7 j0 k0 k1 k8 k9
  go_wp2_with fail
  refine (HHO.out).mono ?_
  rintro e w8 ⟨A8, c8, ks, hks, rfl, hr8, ho8, hb8⟩
  obtain rfl := xkeys6 hks
  rw [xheld] at hr8 ⊢
  obtain ⟨_, _, e8, _, _, _, _, k8⟩ := id hr8.form
  cases e8
  obtain ⟨g8, rfl, i1⟩ := k8 1 (.bool true) rfl
  have j0 : w8.cell? ⟨g7, 0, none⟩ = some (.int .i64 1) := (hb8.cell (p := ⟨g7, 0, none⟩) (heap_lt' J0.out)).trans J0.out
  have HB8 := Lib.hid (HB7.out.trans (hb8.mono (Nat.le_trans (Nat.le_of_eq HBE.out.symm) HB7.out.size)))
  clear hks hr8 ho8 hb8 k8
  go_wp2_with fail
  go_ret
  rw [HBE.out]
  exact ⟨rfl, HB8.out⟩
theorem awakeOk {w : World} (hG : Glob w) : AwakeOk w := fun W hW => awake_any (hG.below hW)
theorem law_lnil {w : World} (hG : Glob w) (who : Int) (s : ByteArray) (mine : Bool) : Calls Tryz.prog 6 #[.int .i64 who, .string s, .bool mine] w fun e w' => e = .returned (.bool true) ∧ Below w.heap.size w w' := lnil_of (awakeOk hG) who s mine
end Go.Proofs.YtmchmlkbpocboaaGreatDoor
