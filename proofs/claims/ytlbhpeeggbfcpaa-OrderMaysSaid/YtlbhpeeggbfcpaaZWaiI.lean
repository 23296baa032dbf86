/- all: who is there, rising. -/
import Derived.Test.YtlbhpeeggbfcpaaZWaiH
set_option linter.unusedSimpArgs false
set_option linter.unusedVariables false
set_option linter.unnecessarySimpa false
namespace Go.Proofs.Ytlbhpeeggbfcpaa
open Go.RowKit Go.Sort Go.Shelf
open Go.Maps (Keyed)

theorem row_own {w : World} {base : Nat} {e : TypeId} {z : Nat} {v : Value} {n : Nat} {xs : List Value} (h : w.ownsRow base e z v n xs) : RowIs w z v n xs ∧ ∀ g, v.ownBlock = some g → base ≤ g := by
  obtain ⟨h0, ⟨rfl, rfl⟩ | ⟨g, cap, cur, rfl, hg, hh, hn, hc, hs, ht⟩⟩ := h
  · exact ⟨.inl ⟨rfl, rfl, List.eq_nil_of_length_eq_zero (by simpa using h0)⟩, fun g h => by cases h⟩
  · refine ⟨.inr ⟨g, cap, rfl, h0, hn, heap_lt hh, by rw [h0]; exact Nat.mul_le_mul_right _ hn, hc, fun j b hj => ?_, fun j hj => ⟨?_, free0 hh j⟩⟩, fun g' h => by cases h; exact hg⟩
    · rw [cell_of hh]
      rw [← ht, List.getElem?_take] at hj
      split at hj
      · simpa using hj
      · cases hj
    · rw [cell_of hh, Array.getElem?_eq_getElem (by omega)]; rfl
theorem sortsA (m : Nat) : AnyZI.SortsIn Try.prog Try.sortedA_ren Fence.wide m :=
  ⟨fun blk off cap ss W hH hblk hsz => callsIn_wide.2 (AnyM.slices_Sort_int Try.sortA blk off cap ss W hH hblk hsz),
   fun p cap W => callsIn_wide.2 (AnyM.slices_Sort_int_none Try.sortA p cap W)⟩
theorem keys_any (mo : Option Nat) (W : World) : Calls Try.prog 45 #[.map mo] W fun e w' => e = .returned (.func (.func 71) #[] #[.pointer (some ⟨W.heap.size, 0, none⟩)]) ∧ w' = W.alloc (.cells #[.map mo] 66) :=
  callsIn_wide.1 (AnyZI.keys_in Try.keysA Fence.wide 5 trivial rfl mo W)
def anyR : Value → Option (DataW Unit × List MemPlace) := fun _ => some (.nil, [])
theorem owns_any {w : World} {m c : Nat} {L : List MapEntry} (h : MapIs Try.prog 3 w m L c) (hL : L.length ≤ 1000000) : w.ownsMap Try.prog 3 anyR m L.length (.map ((L.map (Go.WideElems.rg Try.prog 3 anyR)).foldr DataW.insert [])) := by
  refine ⟨L.toArray, c, h.at_, ⟨by simp [maxLen]; omega, ⟨by simpa using h.born, by simpa using h.apart, by simpa using h.one⟩, fun x hx => ?_⟩, by simp, by simp⟩
  obtain ⟨l, hl⟩ := h.keys x (by simpa using hx)
  exact ⟨_, by unfold Go.WideElems.rd anyR; rw [hl]; rfl⟩
theorem keys_perm {w : World} {b0 g c : Nat} {G : Gr} {L : List MapEntry} (h : GAt Try.prog 3 w b0 g G L c) (hn : ∀ e ∈ G, InR64 e.1) : (intKeys (.map ((L.map (Go.WideElems.rg Try.prog 3 anyR)).foldr DataW.insert []) : DataW Unit)).Perm (G.map (·.1)) := by
  have h1 := (Go.WideShapes.sorted_perm (L.map (Go.WideElems.rg Try.prog 3 anyR))).map (fun p : Lit × DataW Unit => Go.intOf p.1)
  refine h1.trans ?_
  rw [List.map_map]
  refine List.Perm.of_eq ?_
  apply List.ext_getElem?
  intro i
  rw [List.getElem?_map, List.getElem?_map]
  by_cases hi : i < L.length
  · have h2 : L[i]? = some L[i] := List.getElem?_eq_getElem hi
    have hg : i < G.length := by rw [← h.len]; exact hi
    have h3 : G[i]? = some G[i] := List.getElem?_eq_getElem hg
    obtain ⟨hk, _⟩ := h.each i _ _ h2 h3
    have hr := hn _ (List.getElem_mem hg)
    rw [h2, h3]
    generalize L[i] = e at hk
    generalize G[i] = z at hk hr
    have := keyI hr
    simp only [Option.map_some, Function.comp, Go.WideElems.rg, Go.WideElems.rd, anyR, hk, this]
    rfl
  · rw [List.getElem?_eq_none (by omega), List.getElem?_eq_none (by rw [← h.len]; omega)]
    rfl
theorem sorted_post {ss ks : List Int} {v : Value} {w' : World} {base : Nat} (hS : ss.Perm ks) (hrow : w'.ownsRow base 3 1 v ss.length ((ss.mergeSort (fun x y => decide (x ≤ y))).map encZ)) :
    ∃ ns : List Int, RowIs w' 1 v ns.length (ints ns) ∧ ns.Perm ks ∧ ns.Pairwise (· ≤ ·) ∧ ∀ g, v.ownBlock = some g → base ≤ g := by
  have hl := List.length_mergeSort (le := fun x y => decide (x ≤ y)) ss
  obtain ⟨h1, h2⟩ := row_own hrow
  refine ⟨ss.mergeSort (fun x y => decide (x ≤ y)), by rw [hl]; exact h1, (List.mergeSort_perm _ _).trans hS, ?_, h2⟩
  have := List.pairwise_mergeSort (le := fun x y => decide (x ≤ y)) (by intro a b c; simp; omega) (by intro a b; simp; omega) ss
  exact this.imp (by simp)
set_option maxRecDepth 100000 in
set_option maxHeartbeats 1000000 in
theorem all_any {w : World} {b0 g c : Nat} {G : Gr} {L : List MapEntry} (h : GAt Try.prog 3 w b0 g G L c) (hn : ∀ e ∈ G, InR64 e.1) (hl : G.length ≤ 1000000) : Calls Try.prog 30 #[.map (some g)] w fun e w' => ∃ v ns, e = .returned v ∧ RowIs w' 1 v ns.length (ints ns) ∧ ns.Perm (G.map (·.1)) ∧ ns.Pairwise (· ≤ ·) ∧ (∀ b, v.ownBlock = some b → w.heap.size ≤ b) ∧ Below w.heap.size w w' := by
  have HK := Lib.hid (keys_any (some g) w)
  have hlt := h.map.lt
  have hb0 := below_new (w := w) (.cells #[.map (some g)] 66)
  have hcb : (w.alloc (.cells #[.map (some g)] 66)).cell? ⟨w.heap.size, 0, none⟩ = some (.map (some g)) := cell_of (alloc_at w _) 0
  have hm' : MapIs Try.prog 3 (w.alloc (.cells #[.map (some g)] 66)) g L c := h.map.keep (Below.heap_alloc _ _ _ hlt)
  have h64 : L.length ≤ 1000000 := by rw [h.len]; exact hl
  have hown := owns_any hm' h64
  have hsz : Maps.size (.map ((L.map (Go.WideElems.rg Try.prog 3 anyR)).foldr DataW.insert []) : DataW Unit) ≤ 1000000 := Nat.le_trans hown.size_le h64
  have hseq : SeqGives Fence.wide 2 Try.prog 71 #[.pointer (some ⟨w.heap.size, 0, none⟩)] encZ (fun ss => ss.Perm (intKeys (.map ((L.map (Go.WideElems.rg Try.prog 3 anyR)).foldr DataW.insert []) : DataW Unit))) (Maps.size (.map ((L.map (Go.WideElems.rg Try.prog 3 anyR)).foldr DataW.insert []) : DataW Unit)) (w.alloc (.cells #[.map (some g)] 66)) :=
    AnyZI.keys_gives (ρ := Try.keysA_ren) { Try.keysA with } Fence.wide _ trivial rfl (by omega) w.heap.size g _ _ _ (by rw [asz]; omega) hcb hown
  have cS := AnyZI.sorted_in Try.sortedA Fence.wide 5 trivial trivial trivial trivial rfl (by omega) (sortsA _) (enters_of Try.func25 (by kernel_rfl) rfl) 71 #[.pointer (some ⟨w.heap.size, 0, none⟩)] trivial (enters_of Try.func71 (by kernel_rfl) rfl) _ _ (by unfold maxLen; omega) (by omega) _ hseq
  have hS : Calls Try.prog 39 #[.func (.func 71) #[] #[.pointer (some ⟨w.heap.size, 0, none⟩)]] (w.alloc (.cells #[.map (some g)] 66)) fun e w' => ∃ v ns, e = .returned v ∧ RowIs w' 1 v ns.length (ints ns) ∧ ns.Perm (G.map (·.1)) ∧ ns.Pairwise (· ≤ ·) ∧ (∀ b, v.ownBlock = some b → w.heap.size ≤ b) ∧ Below w.heap.size w w' := by
    refine (callsIn_wide.1 cS).mono ?_
    rintro e w' ⟨v, ss, rfl, hp, hrow, hnil, hb⟩
    obtain ⟨ns, h1, h2, h3, h4⟩ := sorted_post (hp.trans (keys_perm h hn)) hrow
    exact ⟨v, ns, rfl, h1, h2, h3, fun g hg => by have := h4 g hg; rw [asz] at this; omega, hb0.trans (hb.mono hb0.size)⟩
  have HS := Lib.hid hS
  clear h hb0 hcb hS cS hseq hown hsz hm' h64 hlt
  go_enter Try.func30, Try.ntmps30
  go_wp2_with fail
  refine (HK.out).mono ?_
  rintro e w1 ⟨rfl, rfl⟩
  go_wp2_with fail
  refine (HS.out).mono ?_
  rintro e w2 ⟨v, ns, rfl, h⟩
  have H := Lib.hid h
  clear h
  go_wp2
  go_ret
  exact ⟨v, ns, rfl, H.out⟩
end Go.Proofs.Ytlbhpeeggbfcpaa
