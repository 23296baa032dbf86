/- trie: slices.Backward with footprints; the marks of ranges in a loop; what is left of the walk downwards, in plain words. -/
import Derived.Test.YtpploljennbpdaaDoorZTriH
set_option linter.unusedSimpArgs false
set_option linter.unusedVariables false
set_option linter.unnecessarySimpa false
namespace Go.Proofs.YtpploljennbpdaaDoor
open Go.RowKit Go.Shelf
attribute [local go_sem] Oper.semAt_some

theorem back_foot (n : Nat) (hn : 1 ≤ n) (Bs : Nat) (A : Option Addr) (cap : Nat) (zs : List Int) (hlen : zs.length ≤ 1000000000) (w : World) (hc : w.cell? ⟨Bs, 0, none⟩ = some (.slice A zs.length cap)) (hv : RowIs w 1 (.slice A zs.length cap) zs.length (ints zs)) :
    SeqFoot Tryd.prog n 55 #[.pointer (some ⟨Bs, 0, none⟩)] (rndE zs) (fun ys => ys.map (·.1) = List.range zs.length) (fun pre => ∃ k, k ≤ zs.length ∧ pre.map (·.1) = List.range k) zs.length (fun k => k = Bs ∨ (Value.slice A zs.length cap).ownBlock = some k) w := by
  intro l J Jx W hW hJ hJF hJx hY F0 h0 hD
  have hlt : ∀ k, (k = Bs ∨ (Value.slice A zs.length cap).ownBlock = some k) → k < W.heap.size := fun k hk => by
    have : k < w.heap.size := by
      rcases hk with rfl | hk
      · exact heap_lt' hc
      · exact hv.lt _ hk
    exact Nat.lt_of_lt_of_le this hW.size
  refine (back1_in n hn l Bs A cap zs hlen (fun pre W' => ∃ F, J pre W' F ∧ (∀ k, (k = Bs ∨ (Value.slice A zs.length cap).ownBlock = some k) → ¬ F k) ∧ ∀ k, (k = Bs ∨ (Value.slice A zs.length cap).ownBlock = some k) → k < W'.heap.size) (fun pre W' => ∃ F, Jx pre W' F) ?_ W
    ((hW.cell (p := ⟨Bs, 0, none⟩) (heap_lt' hc)).trans hc) (hv.below hW) ⟨F0, h0, hD, hlt⟩).mono ?_
  · rintro pre x A' ⟨F, h, hd, hl⟩ hlen
    refine (hY pre x A' F h hlen).mono fun e B hb => ?_
    rcases hb with ⟨rfl, F', h', ht, hF'⟩ | ⟨rfl, F', hx, _⟩
    · refine .inl ⟨rfl, ⟨F', h', fun k hk e => ?_, fun k hk => Nat.lt_of_lt_of_le (hl k hk) ht.size⟩, ht.block Bs (hl _ (.inl rfl)) (hd _ (.inl rfl)), fun k hk => ht.block k (hl k (.inr hk)) (hd k (.inr hk))⟩
      rcases hF' k e with e | e
      · exact hd k hk e
      · have := hl k hk; omega
    · exact .inr ⟨rfl, F', hx⟩
  · rintro e B ⟨hv, (⟨ys, h1, F, h2, _⟩ | h)⟩
    · exact ⟨hv, .inl ⟨ys, h1, F, h2⟩⟩
    · exact ⟨hv, .inr h⟩
/-- The marks that ranges in a loop have left. -/
def marksD (L : List Nat) : List Deferred := L.map fun r => { target := .collected r, args := #[] }
theorem leaves_marks {F : Fence} {n : Nat} {P : Program} {fn : Func} {tmps : Array Value} {R : Ending → World → Prop} : ∀ (L : List Nat) (W : World), (∀ r ∈ L, W.heap[r]? = some (.deferred (some []))) → L.Nodup →
    (∀ W', Touch (fun k => k ∈ L) W W' → LeavesInM F n P fn tmps R [] .returning W') → LeavesInM F n P fn tmps R (marksD L) .returning W
  | [], W, _, _, h => h W (Touch.refl _ _)
  | r :: L, W, hall, hnd, h => by
    obtain ⟨h1, h2⟩ := List.nodup_cons.1 hnd
    refine ⟨by simp, .inl ⟨r, _, rfl, run_takeDeferred (hall r (List.mem_cons_self ..)), ?_⟩⟩
    have ht : Touch (fun k => k ∈ r :: L) W (W.putObj r (.deferred none)) := (Touch.refl _ W).putObj r _ (fun _ => List.mem_cons_self ..)
    refine leaves_marks L _ (fun k hk => ?_) h2 (fun W' hW' => h W' (ht.trans hW' (fun k _ hk => List.mem_cons_of_mem _ hk)))
    rw [World.putObj_heap_other (fun e => h1 (by rw [← e]; exact hk))]
    exact hall k (List.mem_cons_of_mem _ hk)
/-- What came of a row that is gone through backwards. -/
def cameB (zs : List Int) (pre : List (Rnd zs)) : List Int := pre.map fun x => (zs[zs.length - 1 - x.1]?).getD 0
theorem cameB_snoc (zs : List Int) (pre : List (Rnd zs)) (x : Rnd zs) : cameB zs (pre ++ [x]) = cameB zs pre ++ [(zs[zs.length - 1 - x.1]?).getD 0] := by unfold cameB; rw [List.map_append]; rfl
theorem cameB_len (zs : List Int) (pre : List (Rnd zs)) : (cameB zs pre).length = pre.length := by unfold cameB; rw [List.length_map]
theorem cameB_all {zs : List Int} {ys : List (Rnd zs)} (h : ys.map (·.1) = List.range zs.length) : cameB zs ys = zs.reverse := by
  have : cameB zs ys = (ys.map (·.1)).map fun j => (zs[zs.length - 1 - j]?).getD 0 := by unfold cameB; rw [List.map_map]; rfl
  rw [this, h]
  refine List.ext_getElem? fun i => ?_
  rw [List.getElem?_map]
  by_cases hi : i < zs.length
  · rw [List.getElem?_range hi, List.getElem?_reverse hi, Option.map_some, List.getElem?_eq_getElem (by omega)]
    rfl
  · rw [List.getElem?_eq_none (by rw [List.length_range]; omega), List.getElem?_eq_none (by rw [List.length_reverse]; omega)]
    rfl
/-- The last one of a row is taken off. -/
theorem RowIs.pop {w : World} {g c : Nat} {S : List Int} {z : Int} (h : RowIs w 1 (.slice (some ⟨g, 0, none⟩) (S.length + 1) c) (S.length + 1) (ints (S ++ [z]))) : RowIs w 1 (.slice (some ⟨g, 0, none⟩) S.length c) S.length (ints S) := by
  rcases h with ⟨e, _⟩ | ⟨g', c', e, h1, h2, hc⟩
  · cases e
  · injection e with e1 e2 e3
    injection e1 with e1
    injection e1 with e1
    subst e1 e3
    exact .inr ⟨g, c, rfl, by rw [ints_len, Nat.mul_one], by omega, hc.lt, by rw [ints_len]; omega, hc.max, fun j b hj => hc.holds j b (by
      have hjl := (List.getElem?_eq_some_iff.1 hj).1
      rw [ints_snoc, List.getElem?_append_left hjl]
      exact hj), hc.there⟩
/-! what is left of the walk -/
def belowI (P : List Pth) (z : Int) : List Nat := if 0 ≤ z ∧ z < (P.length : Int) then preP P z.toNat else []
def restI (P : List Pth) (S : List Int) : List Nat := S.reverse.flatMap (belowI P)
theorem rest_snoc (P : List Pth) (S : List Int) (z : Int) : restI P (S ++ [z]) = belowI P z ++ restI P S := by
  unfold restI
  rw [List.reverse_append]
  rfl
theorem below_out {P : List Pth} {z : Int} (h : ¬ (0 ≤ z ∧ z < (P.length : Int))) : belowI P z = [] := by unfold belowI; rw [if_neg h]
theorem below_nat {P : List Pth} {i : Nat} (h : i < P.length) : belowI P (i : Int) = preP P i := by
  unfold belowI
  rw [if_pos ⟨by omega, by omega⟩, Int.toNat_natCast]
theorem below_in {P : List Pth} (hT : TreeP P) {i : Nat} (h : i < P.length) : belowI P (i : Int) = i :: (kidsP P i).flatMap (preP P) := by
  rw [below_nat h, preP_eq hT (List.getElem?_eq_getElem h)]
theorem kid_lt {P : List Pth} {i m : Nat} (h : m ∈ kidsP P i) : m < P.length := by
  unfold kidsP at h
  exact List.mem_range.1 (List.mem_filter.1 h).1
theorem rest_kids (P : List Pth) (S : List Int) (i : Nat) : restI P (S ++ (natI (kidsP P i)).reverse) = (kidsP P i).flatMap (preP P) ++ restI P S := by
  unfold restI
  rw [List.reverse_append, List.reverse_reverse, List.flatMap_append]
  congr 1
  unfold natI
  rw [List.flatMap_map]
  exact flatMap_congr' fun m hm => below_nat (kid_lt hm)
theorem below_nodup {P : List Pth} (hT : TreeP P) (z : Int) : (belowI P z).Nodup := by
  unfold belowI
  split
  · rename_i h
    have hp : P[z.toNat]? = some (P[z.toNat]'(by omega)) := List.getElem?_eq_getElem _
    exact pre_nodup hT _ _ hp
  · exact List.nodup_nil
theorem below_lt {P : List Pth} (hT : TreeP P) {z : Int} {m : Nat} (h : m ∈ belowI P z) : m < P.length := by
  unfold belowI at h
  split at h
  · exact pre_lt hT h
  · cases h
theorem belowI_le {P : List Pth} (hT : TreeP P) (z : Int) : (belowI P z).length ≤ P.length := length_le_of_nodup _ _ (below_nodup hT z) (fun m hm => below_lt hT hm)
theorem rest_len {P : List Pth} (hT : TreeP P) : ∀ S : List Int, (∀ z ∈ S, 0 ≤ z ∧ z < (P.length : Int)) → S.length ≤ (restI P S).length := by
  refine list_snoc_ind (fun _ => Nat.zero_le _) (fun S z ih h => ?_)
  have h1 := ih (fun y hy => h y (List.mem_append_left _ hy))
  have hz := h z (by simp)
  obtain ⟨i, rfl⟩ : ∃ i : Nat, z = (i : Int) := ⟨z.toNat, by omega⟩
  rw [rest_snoc, below_in hT (by omega), List.length_append, List.length_append, List.length_cons]
  simp only [List.length_cons, List.length_nil]
  omega
/-- Which nodes were met. -/
def metC (P : List Pth) (O : List Nat) : List Value := (List.range P.length).map fun i => .bool (O.contains i)
theorem metC_len (P : List Pth) (O : List Nat) : (metC P O).length = P.length := by unfold metC; rw [List.length_map, List.length_range]
theorem metC_at {P : List Pth} {O : List Nat} {i : Nat} (h : i < P.length) : (metC P O)[i]? = some (.bool (O.contains i)) := by unfold metC; rw [List.getElem?_map, List.getElem?_range h]; rfl
theorem metC_set {P : List Pth} {O : List Nat} {i : Nat} (h : i < P.length) : (metC P O).set i (.bool true) = metC P (O ++ [i]) := by
  refine List.ext_getElem? fun k => ?_
  rw [List.getElem?_set, metC_len]
  by_cases e : i = k
  · subst e
    rw [if_pos rfl, if_pos h, metC_at h]
    simp
  · rw [if_neg e]
    by_cases hk : k < P.length
    · rw [metC_at hk, metC_at hk]
      have : (O ++ [i]).contains k = O.contains k := by
        rw [Bool.eq_iff_iff, List.contains_iff_mem, List.contains_iff_mem, List.mem_append, List.mem_singleton]
        exact ⟨fun h => h.elim id (fun h => absurd h.symm e), .inl⟩
      rw [this]
    · rw [List.getElem?_eq_none (by rw [metC_len]; omega), List.getElem?_eq_none (by rw [metC_len]; omega)]
end Go.Proofs.YtpploljennbpdaaDoor
