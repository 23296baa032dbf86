/- order: the keys of a map of rows, sorted; what stands under a key. -/
import Derived.Test.YtlbhpeeggbfcpaaZOrdC
import Derived.Test.YtlbhpeeggbfcpaaZShr
import Derived.Test.YtlbhpeeggbfcpaaZWaiI
set_option linter.unusedSimpArgs false
set_option linter.unusedVariables false
set_option linter.unnecessarySimpa false
namespace Go.Proofs.Ytlbhpeeggbfcpaa
open Go.RowKit Go.Sort Go.Shelf
open Go.Maps (Keyed)

theorem skeys_any (mo : Option Nat) (W : World) : Calls Try.prog 40 #[.map mo] W fun e w' => e = .returned (.func (.func 59) #[] #[.pointer (some ⟨W.heap.size, 0, none⟩)]) ∧ w' = W.alloc (.cells #[.map mo] 64) :=
  callsIn_wide.1 (AnyZI.keys_in Try.keysB Fence.wide 5 trivial rfl mo W)
theorem ssorted_any {w : World} {b0 g c : Nat} {G : Gr} {L : List MapEntry} (h : GAt Try.prog 3 w b0 g G L c) (hn : ∀ e ∈ G, InR64 e.1) (hl : G.length ≤ 1000000) :
    Calls Try.prog 39 #[.func (.func 59) #[] #[.pointer (some ⟨w.heap.size, 0, none⟩)]] (w.alloc (.cells #[.map (some g)] 64)) fun e w' => ∃ v ns, e = .returned v ∧ RowIs w' 1 v ns.length (ints ns) ∧ ns.Perm (G.map (·.1)) ∧ ns.Pairwise (· ≤ ·) ∧ (∀ b, v.ownBlock = some b → w.heap.size ≤ b) ∧ Below w.heap.size w w' := by
  have hlt := h.map.lt
  have hb0 := below_new (w := w) (.cells #[.map (some g)] 64)
  have hcb : (w.alloc (.cells #[.map (some g)] 64)).cell? ⟨w.heap.size, 0, none⟩ = some (.map (some g)) := cell_of (alloc_at w _) 0
  have hm' : MapIs Try.prog 3 (w.alloc (.cells #[.map (some g)] 64)) g L c := h.map.keep (Below.heap_alloc _ _ _ hlt)
  have h64 : L.length ≤ 1000000 := by rw [h.len]; exact hl
  have hown := owns_any hm' h64
  have hsz : Maps.size (.map ((L.map (Go.WideElems.rg Try.prog 3 anyR)).foldr DataW.insert []) : DataW Unit) ≤ 1000000 := Nat.le_trans hown.size_le h64
  have hseq : SeqGives Fence.wide 2 Try.prog 59 #[.pointer (some ⟨w.heap.size, 0, none⟩)] encZ (fun ss => ss.Perm (intKeys (.map ((L.map (Go.WideElems.rg Try.prog 3 anyR)).foldr DataW.insert []) : DataW Unit))) (Maps.size (.map ((L.map (Go.WideElems.rg Try.prog 3 anyR)).foldr DataW.insert []) : DataW Unit)) (w.alloc (.cells #[.map (some g)] 64)) :=
    AnyZI.keys_gives (ρ := Try.keysB_ren) { Try.keysB with } Fence.wide _ trivial rfl (by omega) w.heap.size g _ _ _ (by rw [asz]; omega) hcb hown
  have cS := AnyZI.sorted_in Try.sortedA Fence.wide 5 trivial trivial trivial trivial rfl (by omega) (sortsA _) (enters_of Try.func25 (by kernel_rfl) rfl) 59 #[.pointer (some ⟨w.heap.size, 0, none⟩)] trivial (enters_of Try.func59 (by kernel_rfl) rfl) _ _ (by unfold maxLen; omega) (by omega) _ hseq
  refine (callsIn_wide.1 cS).mono ?_
  rintro e w' ⟨v, ss, rfl, hp, hrow, hnil, hb⟩
  obtain ⟨ns, h1, h2, h3, h4⟩ := sorted_post (hp.trans (keys_perm h hn)) hrow
  exact ⟨v, ns, rfl, h1, h2, h3, fun g hg => by have := h4 g hg; rw [asz] at this; omega, hb0.trans (hb.mono hb0.size)⟩
/-- What stands under a key of a map in memory. -/
def vofP : Gr → List MapEntry → Int → Value
  | e :: G, m :: L, x => if e.1 = x then m.val else vofP G L x
  | _, _, _ => .slice none 0 0
theorem vof_at : ∀ {G : Gr} {L : List MapEntry} {j : Nat} {m : MapEntry} {x : Int} {l : List Int}, (G.map (·.1)).Nodup → L[j]? = some m → G[j]? = some (x, l) → vofP G L x = m.val
  | e :: G, n :: L, 0, m, x, l, _, h1, h2 => by
    have h1 : n = m := by simpa using h1
    have h2 : e = (x, l) := by simpa using h2
    subst h1 h2
    unfold vofP
    rw [if_pos rfl]
  | e :: G, n :: L, j + 1, m, x, l, hn, h1, h2 => by
    rw [List.map_cons, List.nodup_cons] at hn
    rw [List.getElem?_cons_succ] at h1 h2
    have hne : e.1 ≠ x := fun e' => hn.1 (List.mem_map.2 ⟨_, List.mem_of_getElem? h2, e'.symm⟩)
    show (if e.1 = x then n.val else vofP G L x) = m.val
    rw [if_neg hne]
    exact vof_at hn.2 h1 h2
  | [], _, j, m, x, l, _, _, h2 => by simp at h2
  | _ :: _, [], j, m, x, l, _, h1, _ => by simp at h1
section
variable {w : World} {b0 g c : Nat} {G : Gr} {L : List MapEntry}
theorem GAt.vof (h : GAt Try.prog 3 w b0 g G L c) {x : Int} (hx : hasK G x = true) : RowIs w 1 (vofP G L x) (at_ G x).length (ints (at_ G x)) ∧ (∀ k, (vofP G L x).ownBlock = some k → b0 ≤ k ∧ k ≠ g) ∧ ∃ (j : Nat) (m : MapEntry), L[j]? = some m ∧ m.key = .int .i64 x ∧ m.val = vofP G L x ∧ G[j]? = some (x, at_ G x) := by
  rcases h.cases x with ⟨j, m, l, hj, he, hg⟩ | hn
  · obtain ⟨ha, hk⟩ := at_hit h.nodup hg
    obtain ⟨_, hr⟩ := h.each j m _ hj hg
    have hv := vof_at h.nodup hj hg
    rw [hv, ha]
    exact ⟨hr, h.own m (List.mem_of_getElem? hj), j, m, hj, he, rfl, hg⟩
  · obtain ⟨hk, _⟩ := h.miss hn
    rw [hk] at hx
    cases hx
theorem GAt.vof_apart (h : GAt Try.prog 3 w b0 g G L c) {x y : Int} (hx : hasK G x = true) (hy : hasK G y = true) (hne : x ≠ y) {k : Nat} (hk : (vofP G L x).ownBlock = some k) : (vofP G L y).ownBlock ≠ some k := by
  obtain ⟨_, _, i, m, h1, h2, h3, h4⟩ := h.vof hx
  obtain ⟨_, _, j, n, k1, k2, k3, k4⟩ := h.vof hy
  rw [← h3] at hk
  rw [← k3]
  refine h.apart i j m n k h1 k1 (fun e => hne ?_) hk
  subst e
  rw [h4] at k4
  injection k4 with k4
  injection k4
theorem GAt.vof_look (h : GAt Try.prog 3 w b0 g G L c) {x : Int} (hx : hasK G x = true) (hr : InR64 x) {W : World} (hW : W.heap[g]? = w.heap[g]?) : (Instr.lookup 64 (.map (some g)) (.int .i64 x) false).run Try.prog W = .ok (vofP G L x) W := by
  obtain ⟨_, _, j, m, h1, h2, h3, h4⟩ := h.vof hx
  have := (h.map.keep hW).look_hit keyedI Try.underlying64 (keyI hr) h1 h2 false
  rw [h3] at this
  exact this
end
end Go.Proofs.Ytlbhpeeggbfcpaa
