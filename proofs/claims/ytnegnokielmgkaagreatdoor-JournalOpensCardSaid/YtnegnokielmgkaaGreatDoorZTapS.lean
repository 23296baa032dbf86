/- The tape: Segs. -/
import Derived.Test.YtnegnokielmgkaaGreatDoorZTapI
import Derived.Test.YtnegnokielmgkaaGreatDoorZShf
set_option linter.unusedSimpArgs false
set_option linter.unusedVariables false
set_option linter.unnecessarySimpa false
namespace Go.Proofs.YtnegnokielmgkaaGreatDoor
open Go.RowKit Go.Sort Go.Shelf

/-- A value that reads as numbers. -/
def IIs (w : World) (v : Value) (l : List Int) : Prop :=
  ∃ A cap, v = .slice A l.length cap ∧ l.length ≤ cap ∧ cap ≤ maxLen ∧ ∀ i x, l[i]? = some x → ∃ a : Addr, A = some a ∧ a.block < w.heap.size ∧ w.cell? (a.add i) = some (.int .i64 x)
theorem IIs.below {w w' : World} {v : Value} {l : List Int} (h : IIs w v l) (hb : Below w.heap.size w w') : IIs w' v l := by
  obtain ⟨A, cap, rfl, h1, h2, h3⟩ := h
  refine ⟨A, cap, rfl, h1, h2, fun i b hi => ?_⟩
  obtain ⟨a, q1, q2, q3⟩ := h3 i b hi
  exact ⟨a, q1, Nat.lt_of_lt_of_le q2 hb.size, (hb.cell (by rw [add_block]; exact q2)).trans q3⟩
theorem row_own {w : World} {base : Nat} {e : TypeId} {z : Nat} {v : Value} {n : Nat} {xs : List Value} (h : w.ownsRow base e z v n xs) : RowIs w z v n xs ∧ ∀ g, v.ownBlock = some g → base ≤ g := by
  obtain ⟨h0, ⟨rfl, rfl⟩ | ⟨g, cap, cur, rfl, hg, hh, hn, hc, hs, ht⟩⟩ := h
  · exact ⟨.inl ⟨rfl, rfl, List.eq_nil_of_length_eq_zero (by simpa using h0)⟩, fun g h => by cases h⟩
  · refine ⟨.inr ⟨g, cap, rfl, h0, hn, heap_lt hh, by rw [h0]; exact Nat.mul_le_mul_right _ hn, hc, fun j b hj => ?_, fun j hj => ⟨?_, free0 hh j⟩⟩, fun g' h => by cases h; exact hg⟩
    · rw [cell_of hh]
      rw [← ht, List.getElem?_take] at hj
      split at hj
      · simpa using hj
      · cases hj
    · rw [cell_of hh, Array.getElem?_eq_getElem (by omega)]; rfl
theorem iis_row {w : World} {v : Value} {l : List Int} (h : RowIs w 1 v l.length (l.map (Value.int .i64))) : IIs w v l := by
  obtain ⟨A, cap, rfl, h1, h2, h3, h4, h5⟩ := h.form
  refine ⟨A, cap, rfl, h1, h2, fun i b hi => ?_⟩
  obtain ⟨g, rfl, hc⟩ := h5 i (.int .i64 b) (by rw [List.getElem?_map, hi]; rfl)
  obtain ⟨g', e, hg'⟩ := h4 _ rfl
  cases e
  exact ⟨_, rfl, h.lt _ hg', by rw [add0]; exact hc⟩
theorem sortsA (m : Nat) : AnyZI.SortsIn Tryz.prog Tryz.sortedA_ren Fence.wide m :=
  ⟨fun blk off cap ss W hH hblk hsz => callsIn_wide.2 (AnyM.slices_Sort_int Tryz.sortA blk off cap ss W hH hblk hsz),
   fun p cap W => callsIn_wide.2 (AnyM.slices_Sort_int_none Tryz.sortA p cap W)⟩
theorem keys_any (mo : Option Nat) (W : World) : Calls Tryz.prog 52 #[.map mo] W fun e w' => e = .returned (.func (.func 82) #[] #[.pointer (some ⟨W.heap.size, 0, none⟩)]) ∧ w' = W.alloc (.cells #[.map mo] 75) :=
  callsIn_wide.1 (AnyZI.keys_in Tryz.keysA Fence.wide 5 trivial rfl mo W)
def anyR : Value → Option (DataW Unit × List MemPlace) := fun _ => some (.nil, [])
theorem owns_any {w : World} {m c : Nat} {L : List MapEntry} (h : MapIs Tryz.prog 3 w m L c) (hL : L.length ≤ 64) : w.ownsMap Tryz.prog 3 anyR m L.length (.map ((L.map (Go.WideElems.rg Tryz.prog 3 anyR)).foldr DataW.insert [])) := by
  refine ⟨L.toArray, c, h.at_, ⟨by simp [maxLen]; omega, ⟨by simpa using h.born, by simpa using h.apart, by simpa using h.one⟩, fun x hx => ?_⟩, by simp, by simp⟩
  obtain ⟨l, hl⟩ := h.keys x (by simpa using hx)
  exact ⟨_, by unfold Go.WideElems.rd anyR; rw [hl]; rfl⟩
theorem keys_perm' {w : World} {m c : Nat} {L : List Ent} (h : MapIs Tryz.prog 3 w m (L.map Ent.me) c) (hn : ∀ e ∈ L, nameB e.n = true) : (intKeys (.map (((L.map Ent.me).map (Go.WideElems.rg Tryz.prog 3 anyR)).foldr DataW.insert []) : DataW Unit)).Perm (L.map (·.n)) := by
  have h1 := (Go.WideShapes.sorted_perm ((L.map Ent.me).map (Go.WideElems.rg Tryz.prog 3 anyR))).map (fun p : Lit × DataW Unit => Go.intOf p.1)
  refine h1.trans ?_
  rw [List.map_map, List.map_map]
  refine List.Perm.of_eq (List.map_congr_left fun e he => ?_)
  have := key_int (hn e he)
  simp only [Function.comp, Go.WideElems.rg, Go.WideElems.rd, anyR, Ent.me, this]
  rfl
theorem TapeAt.names {w : World} {t : Nat} {T : Tp} (h : TapeAt w t T) : ∀ e ∈ T.L, nameB e.n = true := fun e he => nameB_iff.2 ⟨(h.segs e he).lo, (h.segs e he).hi⟩

/-- What Segs tells. -/
def SegsP (w : World) (T : Tp) (x : Ending) (w' : World) : Prop := ∃ (v : Value) (ns : List Int), x = .returned v ∧ RowIs w' 1 v ns.length (ns.map (Value.int .i64)) ∧ ns.Perm (T.L.map (·.n)) ∧ ns.Pairwise (· ≤ ·) ∧ (∀ g, v.ownBlock = some g → w.heap.size ≤ g) ∧ Below w.heap.size w w'
theorem sorted_post {ss : List Int} {v : Value} {w' : World} {base : Nat} {L : List Ent} (hS : ss.Perm (L.map (·.n))) (hrow : w'.ownsRow base 3 1 v ss.length ((ss.mergeSort (fun x y => decide (x ≤ y))).map encZ)) :
    ∃ ns : List Int, RowIs w' 1 v ns.length (ns.map (Value.int .i64)) ∧ ns.Perm (L.map (·.n)) ∧ ns.Pairwise (· ≤ ·) ∧ ∀ g, v.ownBlock = some g → base ≤ g := by
  have hl := List.length_mergeSort (le := fun x y => decide (x ≤ y)) ss
  obtain ⟨h1, h2⟩ := row_own hrow
  refine ⟨ss.mergeSort (fun x y => decide (x ≤ y)), by rw [hl]; exact h1, (List.mergeSort_perm _ _).trans hS, ?_, h2⟩
  have := List.pairwise_mergeSort (le := fun x y => decide (x ≤ y)) (by intro a b c; simp; omega) (by intro a b; simp; omega) ss
  exact this.imp (by simp)

set_option maxRecDepth 100000 in
set_option maxHeartbeats 1000000 in
theorem segs_any {w : World} {t : Nat} {T : Tp} (hT : TapeAt w t T) : Calls Tryz.prog 13 #[.pointer (some ⟨t, 0, none⟩)] w (SegsP w T) := by
  have hc : w.cell? ⟨t, 0, none⟩ = some (.map T.m) := cell_of hT.head 0
  have HK := Lib.hid (keys_any T.m w)
  have hb0 := below_new (w := w) (.cells #[.map T.m] 75)
  have hcb : (w.alloc (.cells #[.map T.m] 75)).cell? ⟨w.heap.size, 0, none⟩ = some (.map T.m) := cell_of (alloc_at w _) 0
  have hS : Calls Tryz.prog 51 #[.func (.func 82) #[] #[.pointer (some ⟨w.heap.size, 0, none⟩)]] (w.alloc (.cells #[.map T.m] 75)) (SegsP w T) := by
    cases hTm : T.m with
    | none =>
      have hL : T.L = [] := by have := hT.map; rw [hTm] at this; exact this
      rw [hTm] at hb0 hcb
      have hseq : SeqGives Fence.wide 2 Tryz.prog 82 #[.pointer (some ⟨w.heap.size, 0, none⟩)] encZ (fun ss : List Int => ss = []) 0 (w.alloc (.cells #[.map none] 75)) :=
        AnyZI.keys_gives_nil (ρ := Tryz.keysA_ren) { Tryz.keysA with } Fence.wide _ trivial rfl w.heap.size _ (by rw [asz]; omega) hcb
      have cS := AnyZI.sorted_in Tryz.sortedA Fence.wide 5 trivial trivial trivial trivial rfl (by omega) (sortsA _) (enters_of Tryz.func81 (by kernel_rfl) rfl) 82 #[.pointer (some ⟨w.heap.size, 0, none⟩)] trivial (enters_of Tryz.func82 (by kernel_rfl) rfl) _ 0 (Nat.zero_le _) (by omega) _ hseq
      refine (callsIn_wide.1 cS).mono ?_
      rintro e w' ⟨v, ss, rfl, rfl, hrow, hnil, hb⟩
      obtain ⟨ns, h1, h2, h3, h4⟩ := sorted_post (L := T.L) (by rw [hL]; exact List.Perm.nil) hrow
      exact ⟨v, ns, rfl, h1, h2, h3, fun g hg => by have := h4 g hg; rw [asz] at this; omega, hb0.trans (hb.mono hb0.size)⟩
    | some m =>
      have hm : MapIs Tryz.prog 3 w m (T.L.map Ent.me) T.clock := by have := hT.map; rw [hTm] at this; exact this
      have hlt := MapIs.lt hm
      have hm' : MapIs Tryz.prog 3 (w.alloc (.cells #[.map (some m)] 75)) m (T.L.map Ent.me) T.clock := hm.keep (Below.heap_alloc _ _ _ hlt)
      have h64 : (T.L.map Ent.me).length ≤ 64 := by rw [List.length_map]; exact hT.few
      rw [hTm] at hb0 hcb
      have hown := owns_any hm' h64
      have hsz : Maps.size (.map (((T.L.map Ent.me).map (Go.WideElems.rg Tryz.prog 3 anyR)).foldr DataW.insert []) : DataW Unit) ≤ 64 := Nat.le_trans hown.size_le h64
      have hseq : SeqGives Fence.wide 2 Tryz.prog 82 #[.pointer (some ⟨w.heap.size, 0, none⟩)] encZ (fun ss => ss.Perm (intKeys (.map (((T.L.map Ent.me).map (Go.WideElems.rg Tryz.prog 3 anyR)).foldr DataW.insert []) : DataW Unit))) (Maps.size (.map (((T.L.map Ent.me).map (Go.WideElems.rg Tryz.prog 3 anyR)).foldr DataW.insert []) : DataW Unit)) (w.alloc (.cells #[.map (some m)] 75)) :=
        AnyZI.keys_gives (ρ := Tryz.keysA_ren) { Tryz.keysA with } Fence.wide _ trivial rfl (by omega) w.heap.size m _ _ _ (by rw [asz]; omega) hcb hown
      have cS := AnyZI.sorted_in Tryz.sortedA Fence.wide 5 trivial trivial trivial trivial rfl (by omega) (sortsA _) (enters_of Tryz.func81 (by kernel_rfl) rfl) 82 #[.pointer (some ⟨w.heap.size, 0, none⟩)] trivial (enters_of Tryz.func82 (by kernel_rfl) rfl) _ _ (by unfold maxLen; omega) (by omega) _ hseq
      refine (callsIn_wide.1 cS).mono ?_
      rintro e w' ⟨v, ss, rfl, hp, hrow, hnil, hb⟩
      obtain ⟨ns, h1, h2, h3, h4⟩ := sorted_post (hp.trans (keys_perm' hm hT.names)) hrow
      exact ⟨v, ns, rfl, h1, h2, h3, fun g hg => by have := h4 g hg; rw [asz] at this; omega, hb0.trans (hb.mono hb0.size)⟩
  have HS := Lib.hid hS
  clear hT hb0 hcb hS
  go_enter Tryz.func13, Tryz.ntmps13
  go_wp2_with fail
  refine (HK.out).mono ?_
  rintro e w1 ⟨rfl, rfl⟩
  go_wp2_with fail
  refine (HS.out).mono ?_
  rintro e w2 ⟨v, ns, rfl, h⟩
  have H := Lib.hid h
  clear h
  go_wp2
  go_ret
  exact ⟨v, ns, rfl, H.out⟩
theorem row_at {W : World} {A : Option Addr} {n c : Nat} {l : List Value} (h : RowIs W 1 (.slice A n c) n l) {i : Nat} (hi : i < n) : ∃ g u, A = some ⟨g, 0, none⟩ ∧ g < W.heap.size ∧ W.frozen? ⟨g, i, none⟩ = false ∧ l[i]? = some u ∧ W.cell? ⟨g, i, none⟩ = some u := by
  rcases h with ⟨e, rfl, _⟩ | ⟨g, cap, e, h1, h2, h3⟩
  · omega
  · injection e with e _ e2
    subst e
    subst e2
    have hl : i < l.length := by rw [h1]; omega
    exact ⟨g, _, rfl, h3.lt, (h3.there i (by omega)).2, List.getElem?_eq_getElem hl, h3.holds i _ (List.getElem?_eq_getElem hl)⟩

end Go.Proofs.YtnegnokielmgkaaGreatDoor
