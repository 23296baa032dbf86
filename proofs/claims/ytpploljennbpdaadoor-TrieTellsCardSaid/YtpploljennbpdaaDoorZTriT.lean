/- trie: add. -/
import Derived.Test.YtpploljennbpdaaDoorZTriS
set_option linter.unusedSimpArgs false
set_option linter.unusedVariables false
set_option linter.unnecessarySimpa false
namespace Go.Proofs.YtpploljennbpdaaDoor
open Go.RowKit Go.Shelf

theorem SIs.touch {S : Nat → Prop} {w w' : World} {v : Value} {l : List Int} (h : SIs w v l) (ht : Touch S w w') (hS : ∀ a n c, v = .slice (some a) n c → ¬ S a.block) : SIs w' v l := by
  obtain ⟨A, cap, e, h1, h2, h3⟩ := h
  refine ⟨A, cap, e, h1, h2, fun i x hx => ?_⟩
  obtain ⟨a, ea, hl, hc⟩ := h3 i x hx
  subst ea
  exact ⟨a, rfl, Nat.lt_of_lt_of_le hl ht.size, (World.cell?_of_block (a := a.add i) (by rw [add_block]; exact ht.block a.block hl (hS a _ _ e))).trans hc⟩
/-- A slice of numbers that a call on a tree leaves alone. -/
def Aloof (tb : Nat) (v : Value) (N : List Nd) (pv : Value) : Prop := ∀ a n c, pv = .slice (some a) n c → ¬ (a.block = tb ∨ TrOwn v N a.block)
theorem addN_len (P : List Pth) (p : Pth) : ∀ k, (addN P p k).length ≤ P.length + k
  | 0 => Nat.le_refl _
  | k + 1 => by
    have := addN_len P p k
    unfold addN addK
    split
    · omega
    · rw [List.length_append, List.length_singleton]; omega
set_option maxRecDepth 100000 in
set_option maxHeartbeats 4000000 in
theorem add_any {w : World} {tb : Nat} {v pv : Value} {N : List Nd} {P : List Pth} {p : Pth} (h : TrBx w tb v N P) (hP : P.length ≤ 800) (hs : SIs w pv p) (h8 : p.length ≤ 8) (hal : Aloof tb v N pv) :
    Calls Tryd.prog 39 #[.pointer (some ⟨tb, 0, none⟩), pv] w fun e w' => e = .returned (.int .i64 (idxP (addP P p) p : Int)) ∧ Grew w tb v N (addP P p) w' := by
  obtain ⟨A, cap, rfl, hc1, hc2, _⟩ := id hs
  unfold maxLen at hc2
  have HS := Lib.hid hs
  have HH := Lib.hid h
  have HT := Lib.hid h.tree.tree
  have HAL := Lib.hid hal
  have hpI : (p.length : Int) ≤ 8 := by omega
  have H0 : Hid (idxP P [] = 0) := Lib.hid (h.tree.tree.idx h.tree.tree.root)
  clear hs h hal
  go_enter Tryd.func39, Tryd.ntmps39
  go_wp2_with fail
  go_loopw [5, 10] (fun av iv wr => ∃ k : Nat, k ≤ p.length ∧ iv = .int .i64 k ∧ av = .int .i64 (idxP (addN P p k) (p.take k) : Int) ∧ Grew w tb v N (addN P p k) wr) (fun _ iv _ => p.length - (intOf iv).toNat)
  case atStart => exact ⟨0, Nat.zero_le _, rfl, by rw [List.take_zero]; show Value.int .i64 0 = .int .i64 ((idxP P [] : Nat) : Int); rw [H0.out]; rfl, Grew.refl HH.out⟩
  case round =>
    obtain ⟨k, hk, rfl, rfl, hg⟩ := hrel
    have HG := Lib.hid hg
    by_cases hlt : k < p.length
    · have hx := List.getElem?_eq_getElem hlt
      have hts : p.take (k + 1) = p.take k ++ [p[k]] := List.take_succ_eq_append_getElem hlt
      generalize p[k] = x at hx hts
      obtain ⟨v1, N1, hbx, ht, ho⟩ := hg
      obtain ⟨hT1, hm1⟩ := addN_ok HT.out h8 k hk
      obtain ⟨_, _, e', _, _, hc⟩ := HS.out.touch ht (fun a n c e hS => HAL.out a n c e hS)
      injection e' with e1 _ e3
      subst e1 e3
      obtain ⟨a, rfl, _, kx⟩ := hc k x hx
      have hi : (k : Int) < (p.length : Int) := by omega
      have HK := Lib.hid (kid_any x hbx (by have := addN_len P p k; omega) (idx_at hm1) (by rw [List.length_take]; omega))
      have hE : addK (addN P p k) (p.take k ++ [x]) = addN P p (k + 1) := by rw [← hts]; rfl
      have HE := Lib.hid hE
      have HTS := Lib.hid hts
      have HLT := Lib.hid hlt
      have HTO := Lib.hid ht
      have HO := Lib.hid ho
      obtain ⟨i0, hi0⟩ : ∃ i0, idxP (addN P p k) (p.take k) = i0 := ⟨_, rfl⟩
      rw [hi0] at HK ⊢
      clear hx hts hbx ht ho hT1 hm1 hc hE hlt hi0
      go_wp2_with fail
      refine (HK.out).mono ?_
      rintro e w2 ⟨rfl, hg2⟩
      have hg3 := Grew.trans HTO.out HO.out hg2
      rw [HE.out] at hg3
      have HG3 := Lib.hid hg3
      rw [HE.out, ← HTS.out]
      clear hg2 hg3
      go_wp2_with fail
      go_roundw
      case rel => exact ⟨k + 1, HLT.out, by go_num, rfl, HG3.out⟩
      case measure => have := HLT.out; simp [intOf]; omega
    · obtain rfl : k = p.length := by omega
      have HE : Hid (idxP (addN P p p.length) (p.take p.length) = idxP (addP P p) p) := Lib.hid (by rw [List.take_length]; rfl)
      rw [HE.out]
      clear hg hk hlt
      obtain ⟨i0, hi0⟩ : ∃ i0, idxP (addP P p) p = i0 := ⟨_, rfl⟩
      rw [hi0]
      have HI0 := Lib.hid hi0
      clear hi0
      go_wp2_with fail
      refine bodyPost_ret (v := .int .i64 (i0 : Int)) (by simp [results, Tryd.results39, go_sem]) rfl ⟨by rw [HI0.out], HG.out⟩
end Go.Proofs.YtpploljennbpdaaDoor
