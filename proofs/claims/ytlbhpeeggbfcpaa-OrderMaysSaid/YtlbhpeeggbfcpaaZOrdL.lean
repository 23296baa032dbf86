/- order: neighbours: tickets copied and sorted, and each told with the next one of its site. -/
import Derived.Test.YtlbhpeeggbfcpaaZOrdK
import Derived.Test.YtlbhpeeggbfcpaaZWib
set_option linter.unusedSimpArgs false
set_option linter.unusedVariables false
set_option linter.unnecessarySimpa false
namespace Go.Proofs.Ytlbhpeeggbfcpaa
open Go.RowKit Go.Sort Go.Shelf Go.Lib

theorem infoTk : (Try.prog.info? 59).map (fun i => (i.zero, i.size, i.bytes)) = some (some (.agg #[.int .i64 0, .int .i64 0, .int .i64 0]), 3, 24) := by kernel_rfl
theorem encT_one (x : Tk) : ∀ v ∈ encT x, v.oneCell' = true := fun v hv => by
  simp [encT] at hv
  rcases hv with rfl | rfl | rfl <;> rfl
theorem tkC_one (T : List Tk) : ∀ v ∈ tkC T, v.oneCell' = true := fun v hv => by
  obtain ⟨x, _, hx⟩ := List.mem_flatMap.1 hv
  exact encT_one x v hx
theorem tclone_any {w : World} {v : Value} {T : List Tk} (h : RowIs w 3 v T.length (tkC T)) (hl : T.length ≤ 1000) : Calls Try.prog 47 #[v] w fun e w' => ∃ v', e = .returned v' ∧ RowIs w' 3 v' T.length (tkC T) ∧ (∀ b, v'.ownBlock = some b → w.heap.size ≤ b) ∧ Below w.heap.size w w' := by
  rcases h with ⟨rfl, h1, h2⟩ | ⟨g, cap, rfl, h1, h2, h3⟩
  · refine (AnyE.slices_Clone_nil Try.cloneT 0 0 w).mono ?_
    rintro e w' ⟨rfl, rfl⟩
    rw [h1, h2]
    exact ⟨_, rfl, RowIs.nil _ _, (fun b e => by cases e), Below.refl _ _⟩
  · obtain ⟨i0, hi, hz0, hz1, hz2⟩ := info_parts infoTk
    refine (AnyE.slices_Clone Try.cloneT i0 _ 3 24 hi hz0 hz1 hz2 rfl (by omega) Try.sizeOf59 g 0 T.length cap (tkC T) w h1 (by unfold maxLen; omega) (by omega) (fun j u hj => by rw [Nat.zero_add]; exact h3.holds j u hj) (tkC_one T)).mono ?_
    rintro e w' ⟨v', rfl, hown, _, hb⟩
    obtain ⟨r1, r2⟩ := row_own hown
    exact ⟨v', rfl, r1, r2, hb⟩
theorem list_arr {α : Type} (d : Array α) : d.toList.toArray = d := by simp
theorem tsort_any {w : World} {v : Value} {T : List Tk} (h : RowIs w 3 v T.length (tkC T)) (hl : T.length ≤ 1000) : Calls Try.prog 48 #[v, .func (.func 49) #[] #[]] w fun e w' => e = .returned (.tuple #[]) ∧ ∃ S : List Tk, S.Perm T ∧ (S.Pairwise fun x y => ¬ ltT y x) ∧ RowIs w' 3 v S.length (tkC S) ∧ Touch (fun b => v.ownBlock = some b) w w' := by
  rcases h with ⟨rfl, h1, h2⟩ | ⟨g, cap, rfl, h1, h2, h3⟩
  · have : T = [] := List.eq_nil_of_length_eq_zero h1
    subst this
    refine (AnyF.slices_SortFunc_none Try.sortF none 0 _ w).mono ?_
    rintro e w' ⟨rfl, rfl⟩
    exact ⟨rfl, [], List.Perm.refl _, List.Pairwise.nil, RowIs.nil _ _, Touch.refl _ _⟩
  · have hH : HoldsK encT 3 w g 0 T.toArray := by
      unfold HoldsK
      rw [flat_tk]
      intro j hj
      have hj' : j < (tkC T).length := by simpa using hj
      have e1 : (tkC T)[j]? = some (tkC T)[j] := List.getElem?_eq_getElem hj'
      refine ⟨?_, ?_⟩
      · rw [Nat.zero_add, h3.holds j _ e1]
        simp [hj']
      · rw [Nat.zero_add]
        have := h3.le
        exact (h3.there j (by omega)).2
    have hc := AnyQ.slices_SortFunc Try.sortF 3 Try.isAgg59 Try.sizeOf59 encT (fun _ => rfl) encT_one cfT swoT 49 #[] g 0 cap T.toArray w (enters_of Try.func49 (by kernel_rfl) rfl) (cmpT_lays g 0 _ w) hH h3.lt (by simp; omega)
    have hsz : T.toArray.size = T.length := by simp
    rw [hsz] at hc
    refine hc.mono ?_
    rintro e w' ⟨rfl, d', n, os, ⟨p1, _, p3⟩, hs, rfl⟩
    have q1 : d'.size = T.length := by rw [p1, hsz]
    have hd : d' = d'.toList.toArray := (list_arr d').symm
    have hlen : d'.toList.length = T.length := by rw [Array.length_toList, q1]
    refine ⟨rfl, d'.toList, ?_, ?_, ?_⟩
    · have e1 : (d'.extract 0 T.length).toList = d'.toList := by rw [← q1]; simp
      have e2 : (T.toArray.extract 0 T.length).toList = T := by simp
      rw [e1, e2] at p3
      exact p3
    · rw [List.pairwise_iff_getElem]
      intro i j hi hj hij e
      have := hs i j (Nat.zero_le _) hij (by omega)
      rw [Bool.eq_false_iff] at this
      apply this
      rw [ltT_cf]
      rw [Array.length_toList] at hi hj
      rw [getElem!_pos d' i hi, getElem!_pos d' j hj]
      simpa using e
    · have hw : sortWorldK encT 3 w g 0 n d' os = grow (putRow id (Sort.ahead w n) g 0 (tkC d'.toList).toArray) os := by
        unfold sortWorldK putRowK
        rw [← flat_tk, list_arr]
      obtain ⟨r1, r2⟩ := row_laid (n := n) (os := os) h3 (m := tkC d'.toList) (by rw [tkC_len, tkC_len, hlen])
      rw [hw]
      exact ⟨.inr ⟨g, cap, by rw [hlen], tkC_len _, by rw [hlen]; exact h2, r1⟩, r2.mono (fun k _ e => by rw [e]; rfl)⟩
set_option maxRecDepth 100000 in
set_option maxHeartbeats 2000000 in
theorem neighbours_any {w : World} {v : Value} {T : List Tk} (h : RowIs w 3 v T.length (tkC T)) (hl : T.length ≤ 1000) : Calls Try.prog 33 #[v] w fun e w' => ∃ (B : Nat) (v' : Value) (S : List Tk), e = .returned (.func (.func 53) #[] #[.pointer (some ⟨B, 0, none⟩)]) ∧ S.Perm T ∧ (S.Pairwise fun x y => ¬ ltT y x) ∧ w'.cell? ⟨B, 0, none⟩ = some v' ∧ RowIs w' 3 v' S.length (tkC S) ∧ w.heap.size ≤ B ∧ (∀ b, v'.ownBlock = some b → w.heap.size ≤ b ∧ b ≠ B) ∧ Below w.heap.size w w' := by
  obtain ⟨A, cap, rfl, _⟩ := id h.form
  have hbn := below_new (w := w) (.cells #[.slice A T.length cap] 44)
  have HCL := Lib.hid (tclone_any (h.below hbn) hl)
  have HA := Lib.hid (alloc_at w (.cells #[.slice A T.length cap] 44))
  have HBN := Lib.hid hbn
  have hmf := fun (W : World) => (rfl : (Instr.makeFunc (Fn.func 53) #[] #[.pointer (some ⟨w.heap.size, 0, none⟩)]).run Try.prog W = _)
  clear h hbn hmf
  go_enter Try.func33, Try.ntmps33
  go_wp2_with fail
  refine (HCL.out).mono ?_
  rintro e w1 ⟨v1, rfl, hr1, ho1, hb1⟩
  have hbx : w1.heap[w.heap.size]? = some (.cells #[.slice A T.length cap] 44 (0, 0)) := (hb1.block w.heap.size (by rw [asz]; omega)).trans HA.out
  have hbc := cell_of hbx 0
  have hbf := free0 hbx 0
  obtain ⟨A1, c1, rfl, _⟩ := id hr1.form
  have hne : ∀ b, (Value.slice A1 T.length c1).ownBlock = some b → w.heap.size < b := fun b hb => by have := ho1 b hb; rw [asz] at this; omega
  have ht2 : Touch (fun b => b = w.heap.size) w1 (w1.setCell ⟨w.heap.size, 0, none⟩ (.slice A1 T.length c1)) := (Touch.refl (fun b => b = w.heap.size) w1).setCell ⟨w.heap.size, 0, none⟩ (fun _ => rfl) _
  have hr2 := hr1.touch ht2 (fun b hb e => by have := hne b hb; omega)
  have hbx2 := set_at hbx 0 (.slice A1 T.length c1)
  have HSO := Lib.hid (tsort_any hr2 hl)
  have HB2 : Hid (Below w.heap.size w (w1.setCell ⟨w.heap.size, 0, none⟩ (.slice A1 T.length c1))) := Lib.hid (HBN.out.trans ((hb1.mono HBN.out.size).trans (ht2.below (fun b e => Nat.le_of_eq e.symm) (Nat.le_trans HBN.out.size hb1.size))))
  have HX2 := Lib.hid hbx2
  have HNE := Lib.hid hne
  clear hb1 ho1 hr1 hne ht2 hr2 hbx2
  simp at hbc
  go_wp2_with fail
  refine (HSO.out).mono ?_
  rintro e w2 ⟨rfl, S, hp, hs, hr3, ht3⟩
  have hl3 : S.length = T.length := hp.length_eq
  have HF : Hid (S.Perm T ∧ (S.Pairwise fun x y => ¬ ltT y x) ∧ w2.cell? ⟨w.heap.size, 0, none⟩ = some (.slice A1 T.length c1) ∧ RowIs w2 3 (.slice A1 T.length c1) S.length (tkC S) ∧ w.heap.size ≤ w.heap.size ∧ (∀ b, (Value.slice A1 T.length c1).ownBlock = some b → w.heap.size ≤ b ∧ b ≠ w.heap.size) ∧ Below w.heap.size w w2) := Lib.hid
    ⟨hp, hs, (World.cell?_of_block (a := ⟨w.heap.size, 0, none⟩) (ht3.block w.heap.size (heap_lt HX2.out) (fun e => by have := HNE.out _ e; omega))).trans (cell_of HX2.out 0), hr3, Nat.le_refl _, fun b hb => by have := HNE.out b hb; exact ⟨by omega, by omega⟩, HB2.out.trans (ht3.below (fun b e => by have := HNE.out b e; omega) HB2.out.size)⟩
  clear hp hs hr3 ht3
  go_wp2_with fail
  go_ret
  exact ⟨w.heap.size, .slice A1 T.length c1, S, rfl, HF.out⟩
end Go.Proofs.Ytlbhpeeggbfcpaa
