/- The reference's chain in memory: put and find. The reference's Read. -/
import Derived.Test.YtmaokoekbjjgfaaDoorZChcD
set_option linter.unusedSimpArgs false
set_option linter.unusedVariables false
set_option linter.unnecessarySimpa false
namespace Go.Proofs.YtmaokoekbjjgfaaDoor
open Go.RowKit Go.Shelf

theorem verC_app (A B : List Ver) : verC (A ++ B) = verC A ++ verC B := by unfold verC; simp
theorem infoR : (Tryd.prog.info? 59).map (fun i => (i.zero, i.size, i.bytes)) = some (some (.agg #[.int .i64 0, .int .i64 0, .bool false, .int .i64 0, .bool false]), 5, 40) := by kernel_rfl
/-- The reference's chain in memory. -/
structure RAt (w : World) (r : Nat) (v : Value) (L : List Ver) : Prop where
  head : w.heap[r]? = some (.cells #[v] 62 (0, 0))
  row : RowIs w 5 v L.length (verC L)
  off : v.ownBlock ≠ some r
theorem RAt.below {w w' : World} {r : Nat} {v : Value} {L : List Ver} (h : RAt w r v L) (hb : Below w.heap.size w w') : RAt w' r v L :=
  ⟨(hb.block r (heap_lt h.head)).trans h.head, h.row.below hb, h.off⟩
theorem RAt.touch {S : Nat → Prop} {w w' : World} {r : Nat} {v : Value} {L : List Ver} (h : RAt w r v L) (ht : Touch S w w') (hr : ¬ S r) (hv : ∀ g, v.ownBlock = some g → ¬ S g) : RAt w' r v L :=
  ⟨(ht.block r (heap_lt h.head) hr).trans h.head, RowIs.touch h.row ht hv, h.off⟩
/-- A part of a row, as a source. -/
theorem src_part {w : World} {g n cap : Nat} {L : List Ver} (h : RowIs w 5 (.slice (some ⟨g, 0, none⟩) n cap) n (verC L)) {A M B : List Ver} (hL : L = A ++ M ++ B) (c : Nat) :
    Src Tryd.prog 5 60 (.slice (some ⟨g, A.length * 5, none⟩) M.length c) M.length (verC M) w :=
  Src.ofSlice _ Tryd.underlying60 ⟨g, A.length * 5, none⟩ M.length c (verC M) (verC_len M) (fun j u hu => by
    have hj := (List.getElem?_eq_some_iff.1 hu).1
    rcases h with ⟨e, _⟩ | ⟨g', cap', e, _, _, hc⟩
    · cases e
    · injection e with e _ _
      injection e with e
      injection e with e _ _
      subst e
      have e2 : (⟨g, A.length * 5, none⟩ : Addr).add j = ⟨g, A.length * 5 + j, none⟩ := by
        unfold Addr.add
        split
        · subst j; rfl
        · simp
      rw [e2]
      refine hc.holds _ _ ?_
      rw [hL, verC_app, verC_app, List.getElem?_append_left (by rw [List.length_append, verC_len]; omega), List.getElem?_append_right (by rw [verC_len]; omega), verC_len]
      rw [show A.length * 5 + j - A.length * 5 = j from by omega]
      exact hu) (verC_one _)
theorem cnt_take {L : List Ver} (h : Ris L) {t : Int} {k : Nat} {u : Ver} (hk : L[k]? = some u) : cnt (L.take (k + 1)) t = if u.at_ ≤ t then k + 1 else cnt (L.take k) t := by
  have hkl := (List.getElem?_eq_some_iff.1 hk).1
  have e : L.take (k + 1) = L.take k ++ [u] := by rw [List.take_succ_eq_append_getElem hkl, (List.getElem?_eq_some_iff.1 hk).2]
  unfold cnt
  by_cases hu : u.at_ ≤ t
  · rw [if_pos hu]
    have : (L.take (k + 1)).countP (fun v => decide (v.at_ ≤ t)) = (L.take (k + 1)).length := by
      rw [List.countP_eq_length]
      intro a ha
      obtain ⟨j, hj⟩ := List.getElem?_of_mem ha
      have hjl := (List.getElem?_eq_some_iff.1 hj).1
      rw [List.length_take] at hjl
      rw [List.getElem?_take_of_lt (by omega)] at hj
      have := h.le hj hk (by omega)
      simp
      omega
    rw [this, List.length_take]
    omega
  · rw [if_neg hu, e, List.countP_append, List.countP_singleton, if_neg (by simpa using hu)]
    rfl
set_option maxRecDepth 100000 in
set_option maxHeartbeats 4000000 in
theorem rfind_any {w : World} {r : Nat} {v : Value} {L : List Ver} {t : Int} (h : RAt w r v L) (hR : Ris L) (hl : L.length ≤ 1000000) :
    Calls Tryd.prog 37 #[.pointer (some ⟨r, 0, none⟩), .int .i64 t] w fun e w' => e = .returned (.int .i64 ((cnt L t : Int) - 1)) ∧ Below w.heap.size w w' := by
  obtain ⟨A, cap, rfl, h1, h2, _⟩ := id (RowIs.form h.row)
  unfold maxLen at h2
  have kr : w.cell? ⟨r, 0, none⟩ = some (.slice A L.length cap) := cell_of h.head 0
  have hlI : (L.length : Int) ≤ 1000000 := by omega
  have HR := Lib.hid h.row
  have HRI := Lib.hid hR
  clear h hR
  go_enter Tryd.func37, Tryd.ntmps37
  go_wp2_with fail
  go_loopw [5, 13] (fun kv iv wr => ∃ k : Nat, k ≤ L.length ∧ iv = .int .i64 k ∧ kv = .int .i64 ((cnt (L.take k) t : Int) - 1) ∧ Below w.heap.size w wr) (fun _ iv _ => L.length - (intOf iv).toNat)
  case atStart => exact ⟨0, Nat.zero_le _, rfl, rfl, Below.refl _ _⟩
  case round =>
    obtain ⟨k, hk, rfl, rfl, hb⟩ := hrel
    by_cases hlt : k < L.length
    · have hx : L[k]? = some L[k] := List.getElem?_eq_getElem hlt
      generalize L[k] = y at hx
      obtain ⟨g', cap', ev, hc1, hc2, _, c0, c1, c2, c3, c4⟩ := (HR.out.below hb).ver hx
      injection ev with ev _ ev3
      subst ev ev3
      have hbn := below_new (w := wr) (.cells #[.int .i64 y.at_, .int .i64 y.n, .bool y.there, .int .i64 y.read, .bool y.opn] 59)
      have HB := Lib.hid (hb.trans (hbn.mono hb.size))
      have HLT := Lib.hid hlt
      have hi : (k : Int) < (L.length : Int) := by omega
      have hct := cnt_take HRI.out (t := t) hx
      by_cases hu : y.at_ ≤ t
      · rw [if_pos hu] at hct
        have HN : Hid ((.int .i64 (k : Int) : Value) = .int .i64 ((cnt (L.take (k + 1)) t : Int) - 1)) := Lib.hid (by rw [hct]; congr 1; omega)
        clear hct hx hb hbn hk hlt
        go_wp2_with fail
        go_roundw
        case rel => exact ⟨k + 1, HLT.out, by go_num, HN.out, HB.out⟩
        case measure => have := HLT.out; simp [intOf]; omega
      · rw [if_neg hu] at hct
        have HN := Lib.hid hct
        clear hct hx hb hbn hk hlt
        go_wp2_with fail
        go_roundw
        case rel => exact ⟨k + 1, HLT.out, by go_num, by rw [HN.out], HB.out⟩
        case measure => have := HLT.out; simp [intOf]; omega
    · obtain rfl : k = L.length := by omega
      have HB := Lib.hid hb
      have e : L.take L.length = L := List.take_length
      have HE : Hid ((.int .i64 ((cnt (L.take L.length) t : Int) - 1) : Value) = .int .i64 ((cnt L t : Int) - 1)) := Lib.hid (by rw [e])
      clear hb hk hlt e
      go_wp2_with fail
      go_ret
      rw [HE.out]
      exact ⟨rfl, HB.out⟩
set_option maxRecDepth 100000 in
set_option maxHeartbeats 4000000 in
theorem rput_any {w : World} {r : Nat} {v : Value} {A M B : List Ver} (h : RAt w r v (A ++ M ++ B)) (hne : 0 < (A ++ M ++ B).length) (hl : (A ++ M ++ B).length ≤ 1000000) {x : Value} {N : List Ver} (hN : N.length ≤ 1) (hx : Src Tryd.prog 5 60 x N.length (verC N) w) (hxk : ∀ w', Below w.heap.size w w' → Src Tryd.prog 5 60 x N.length (verC N) w') :
    Calls Tryd.prog 38 #[.pointer (some ⟨r, 0, none⟩), .int .i64 A.length, .int .i64 ((A.length + M.length : Nat) : Int), x] w fun e w' => e = .returned (.tuple #[]) ∧ ∃ v', RAt w' r v' (A ++ N ++ B) ∧ Touch (fun k => k = r) w w' ∧ ∀ k, v'.ownBlock = some k → w.heap.size ≤ k := by
  obtain ⟨u, hu⟩ : ∃ u, (A ++ M ++ B)[0]? = some u := ⟨_, List.getElem?_eq_getElem hne⟩
  obtain ⟨g, cap, rfl, h1, h2, ho, _⟩ := h.row.ver hu
  have hr0 := heap_lt h.head
  have hg0 : g < w.heap.size := RowIs.lt h.row g ho
  have hlen : (A ++ M ++ B).length = A.length + M.length + B.length := by simp; omega
  have hsA : Src Tryd.prog 5 60 (.slice (some ⟨g, 0, none⟩) A.length cap) A.length (verC A) w := by
    have := src_part (A := []) (M := A) (B := M ++ B) h.row (by simp) cap
    simpa using this
  obtain ⟨v1, w1, hr1, hrow1, hg1, ho1⟩ := run_append_row w 60 59 60 60 Tryd.underlying60 infoR rfl (by omega) (by omega) (.slice none 0 0) 0 A.length [] (verC A) _ (RowIs.nil w 5) hsA (by omega)
  have hb1 : Below w.heap.size w w1 := ((Touch.refl (fun _ => False) w).grown hg1 (fun k e _ => by cases e)).below (fun i e => e.elim) (Nat.le_refl _)
  rw [Nat.zero_add, List.nil_append] at hrow1
  have hv1 : ∀ k, v1.ownBlock = some k → w.heap.size ≤ k := fun k e => by
    rcases ho1 with e2 | e2
    · rw [e2] at e; cases e
    · rw [e] at e2; injection e2 with e2; omega
  obtain ⟨v2, w2, hr2, hrow2, hg2, ho2⟩ := run_append_row w1 60 59 60 60 Tryd.underlying60 infoR rfl (by omega) (by omega) v1 A.length N.length (verC A) (verC N) x hrow1 (hxk _ hb1) (by omega)
  have hb2 : Below w.heap.size w w2 := hb1.trans (((Touch.refl (fun k => v1.ownBlock = some k) w1).grown hg2 (fun k e _ => e)).below (fun i e => hv1 i e) hb1.size)
  have hv2 : ∀ k, v2.ownBlock = some k → w.heap.size ≤ k := fun k e => by
    rcases ho2 with e2 | e2
    · exact hv1 k (e2 ▸ e)
    · rw [e] at e2; injection e2 with e2; have := hb1.size; omega
  have hsB : Src Tryd.prog 5 60 (.slice (if cap = A.length + M.length then some ⟨g, 0, none⟩ else some ⟨g, (A.length + M.length) * 5, none⟩) B.length (cap - (A.length + M.length))) B.length (verC B) w2 := by
    by_cases e : cap = A.length + M.length
    · rw [if_pos e]
      have hB : B.length = 0 := by omega
      obtain rfl := List.eq_nil_of_length_eq_zero hB
      exact Src.ofSlice _ Tryd.underlying60 ⟨g, 0, none⟩ 0 _ [] rfl (fun j u hu => by simp at hu) (fun u hu => by cases hu)
    · rw [if_neg e]
      have := src_part (A := A ++ M) (M := B) (B := []) (h.row.below hb2) (by simp) (cap - (A.length + M.length))
      rw [List.length_append] at this
      exact this
  obtain ⟨v3, w3, hr3, hrow3, hg3, ho3⟩ := run_append_row w2 60 59 60 60 Tryd.underlying60 infoR rfl (by omega) (by omega) v2 (A.length + N.length) B.length (verC A ++ verC N) (verC B) _ hrow2 hsB (by omega)
  have hb3 : Below w.heap.size w w3 := hb2.trans (((Touch.refl (fun k => v2.ownBlock = some k) w2).grown hg3 (fun k e _ => e)).below (fun i e => hv2 i e) hb2.size)
  have hv3 : ∀ k, v3.ownBlock = some k → w.heap.size ≤ k := fun k e => by
    rcases ho3 with e2 | e2
    · exact hv2 k (e2 ▸ e)
    · rw [e] at e2; injection e2 with e2; have := hb2.size; omega
  obtain ⟨A3, c3, rfl, _⟩ := id hrow3.form
  have hhd := (hb3.block r hr0).trans h.head
  have hnew : RAt (w3.setCell ⟨r, 0, none⟩ (.slice A3 (A.length + N.length + B.length) c3)) r (.slice A3 (A.length + N.length + B.length) c3) (A ++ N ++ B) := by
    have ht : Touch (fun k => k = r) w3 (w3.setCell ⟨r, 0, none⟩ (.slice A3 (A.length + N.length + B.length) c3)) := Touch.setCell (S := fun k => k = r) (Touch.refl _ w3) ⟨r, 0, none⟩ (fun _ => rfl) (.slice A3 (A.length + N.length + B.length) c3)
    refine ⟨?_, ?_, fun e => by have := hv3 r e; omega⟩
    · have := set_at hhd 0 (.slice A3 (A.length + N.length + B.length) c3)
      simpa using this
    · have e : (A ++ N ++ B).length = A.length + N.length + B.length := by simp; omega
      rw [e, verC_app, verC_app]
      exact RowIs.touch hrow3 ht fun k e e2 => by have := hv3 k e; omega
  have HF : Hid (∃ v', RAt (w3.setCell ⟨r, 0, none⟩ (.slice A3 (A.length + N.length + B.length) c3)) r v' (A ++ N ++ B) ∧ Touch (fun k => k = r) w (w3.setCell ⟨r, 0, none⟩ (.slice A3 (A.length + N.length + B.length) c3)) ∧ ∀ k, v'.ownBlock = some k → w.heap.size ≤ k) := Lib.hid ⟨_, hnew, Touch.setCell (S := fun k => k = r) (Touch.of_below hb3) ⟨r, 0, none⟩ (fun _ => rfl) (.slice A3 (A.length + N.length + B.length) c3), hv3⟩
  have kr : w.cell? ⟨r, 0, none⟩ = some (.slice (some ⟨g, 0, none⟩) (A ++ M ++ B).length cap) := cell_of h.head 0
  have kr2 : w2.cell? ⟨r, 0, none⟩ = some (.slice (some ⟨g, 0, none⟩) (A ++ M ++ B).length cap) := (hb2.cell (p := ⟨r, 0, none⟩) hr0).trans kr
  have kr3 : w3.cell? ⟨r, 0, none⟩ = some (.slice (some ⟨g, 0, none⟩) (A ++ M ++ B).length cap) := (hb3.cell (p := ⟨r, 0, none⟩) hr0).trans kr
  have fr3 : w3.frozen? ⟨r, 0, none⟩ = false := free0 hhd 0
  obtain ⟨n3, hn3⟩ : ∃ n3, n3 = A.length + N.length + B.length := ⟨_, rfl⟩
  rw [← hn3] at hr3 HF
  obtain ⟨n, hn⟩ : ∃ n, n = (A ++ M ++ B).length := ⟨_, rfl⟩
  rw [← hn] at kr kr2 kr3 h1
  rw [← hn] at hlen
  obtain ⟨na, hna⟩ : ∃ na, na = A.length := ⟨_, rfl⟩
  obtain ⟨nm, hnm⟩ : ∃ nm, nm = A.length + M.length := ⟨_, rfl⟩
  obtain ⟨nb, hnb⟩ : ∃ nb, nb = B.length := ⟨_, rfl⟩
  rw [← hnm, ← hnb] at hr3
  rw [← hna] at hr1
  rw [← hnm, ← hna]
  have q1 : na ≤ n := by omega
  have q2 : nm ≤ n := by omega
  have q3 : n - nm = nb := by omega
  unfold maxLen at h2
  rw [List.append_assoc] at HF
  have HR1 := Lib.hid hr1
  have HR2 := Lib.hid hr2
  have HR3 := Lib.hid hr3
  clear hn3 hsA hsB hrow1 hrow2 hrow3 hg1 hg2 hg3 ho1 ho2 ho3 hv1 hv2 hv3 hb1 hb2 hb3 hhd hnew hx hxk h hl hne hu hna hnm hnb hn hlen hr1 hr2 hr3 hN ho
  go_enter Tryd.func38, Tryd.ntmps38
  go_wp2_with (at_builtin; first | (refine wpList_app_run rfl _ _ _ _ rfl rfl rfl HR1.out ?_) | (refine wpList_app_run rfl _ _ _ _ rfl rfl rfl HR2.out ?_) | (refine wpList_app_run rfl _ _ _ _ rfl rfl rfl HR3.out ?_))
  all_goals (go_end0; exact ⟨rfl, HF.out⟩)
end Go.Proofs.YtmaokoekbjjgfaaDoor

namespace Go.Proofs.YtmaokoekbjjgfaaDoor
open Go.RowKit Go.Shelf

/-- What a call leaves of the reference's chain. -/
def RPost (w : World) (r : Nat) (v : Value) (L : List Ver) (w' : World) : Prop := ∃ v', RAt w' r v' L ∧ Touch (fun k => k = r) w w' ∧ ∀ k, v'.ownBlock = some k → v.ownBlock = some k ∨ w.heap.size ≤ k
theorem RPost.same {w w' : World} {r : Nat} {v : Value} {L : List Ver} (h : RAt w r v L) (hb : Below w.heap.size w w') : RPost w r v L w' := ⟨v, h.below hb, .of_below hb, fun k e => .inl e⟩
theorem RPost.behind {a w w' : World} {r : Nat} {v : Value} {L : List Ver} (hb : Below a.heap.size a w) (h : RPost w r v L w') : RPost a r v L w' := by
  obtain ⟨v', h1, h2, h3⟩ := h
  exact ⟨v', h1, (Touch.of_below hb).trans h2 (fun _ _ e => e), fun k e => (h3 k e).imp id (fun e => Nat.le_trans hb.size e)⟩
theorem RPost.after {w w' w'' : World} {r : Nat} {v : Value} {L : List Ver} (h : RPost w r v L w') (hb : Below w'.heap.size w' w'') : RPost w r v L w'' := by
  obtain ⟨v', h1, h2, h3⟩ := h
  exact ⟨v', h1.below hb, h2.after hb, h3⟩
theorem src_one {w : World} {b : Nat} {y : Ver} {T : TypeId} (h : w.heap[b]? = some (.cells (verA y) T (0, 0))) : Src Tryd.prog 5 60 (.slice (some ⟨b, 0, none⟩) 1 1) [y].length (verC [y]) w :=
  Src.ofSlice _ Tryd.underlying60 ⟨b, 0, none⟩ 1 1 (verC [y]) (verC_len [y]) (fun j u hu => by
    rw [add0, cell_of h]
    simpa [verC, verV, verA] using hu) (verC_one _)
/-- put of one version in the place of some. -/
theorem rput_one {w : World} {r : Nat} {v : Value} {L A M B : List Ver} (h : RAt w r v L) (hL : L = A ++ M ++ B) (hne : 0 < L.length) (hl : L.length ≤ 1000000) {b : Nat} {y : Ver} {T : TypeId} (hb : w.heap[b]? = some (.cells (verA y) T (0, 0))) {a c : Int} (ha : a = A.length) (hc : c = ((A.length + M.length : Nat) : Int)) :
    Calls Tryd.prog 38 #[.pointer (some ⟨r, 0, none⟩), .int .i64 a, .int .i64 c, .slice (some ⟨b, 0, none⟩) 1 1] w fun e w' => e = .returned (.tuple #[]) ∧ RPost w r v (A ++ y :: B) w' := by
  subst hL ha hc
  refine (rput_any h hne hl (N := [y]) (Nat.le_refl _) (src_one hb) (fun w' hw => src_one ((hw.block b (heap_lt hb)).trans hb))).mono ?_
  rintro e w' ⟨rfl, v', h1, h2, h3⟩
  exact ⟨rfl, v', by simpa using h1, h2, fun k e => .inr (h3 k e)⟩
theorem rset_any {w : World} {r : Nat} {v : Value} {L : List Ver} (h : RAt w r v L) (hl : L.length ≤ 1000000) {k : Nat} {u : Ver} (hk : L[k]? = some u) {b : Nat} {y : Ver} {T : TypeId} (hb : w.heap[b]? = some (.cells (verA y) T (0, 0))) :
    Calls Tryd.prog 38 #[.pointer (some ⟨r, 0, none⟩), .int .i64 k, .int .i64 ((k : Int) + 1), .slice (some ⟨b, 0, none⟩) 1 1] w fun e w' => e = .returned (.tuple #[]) ∧ RPost w r v (L.set k y) w' := by
  have hkl := (List.getElem?_eq_some_iff.1 hk).1
  have e1 : L = L.take k ++ [u] ++ L.drop (k + 1) := by
    rw [List.append_assoc, List.singleton_append, ← (List.getElem?_eq_some_iff.1 hk).2, List.getElem_cons_drop, List.take_append_drop]
  have e2 : L.set k y = L.take k ++ y :: L.drop (k + 1) := List.set_eq_take_append_cons_drop .. |>.trans (by rw [if_pos hkl])
  rw [e2]
  exact rput_one h e1 (by omega) hl hb (by rw [List.length_take]; omega) (by rw [List.length_take]; simp; omega)
theorem rins_any {w : World} {r : Nat} {v : Value} {L : List Ver} (h : RAt w r v L) (hl : L.length ≤ 1000000) {k : Nat} {u : Ver} (hk : L[k]? = some u) {b : Nat} {y : Ver} {T : TypeId} (hb : w.heap[b]? = some (.cells (verA y) T (0, 0))) :
    Calls Tryd.prog 38 #[.pointer (some ⟨r, 0, none⟩), .int .i64 ((k : Int) + 1), .int .i64 ((k : Int) + 1), .slice (some ⟨b, 0, none⟩) 1 1] w fun e w' => e = .returned (.tuple #[]) ∧ RPost w r v (L.take (k + 1) ++ y :: L.drop (k + 1)) w' := by
  have hkl := (List.getElem?_eq_some_iff.1 hk).1
  exact rput_one (M := []) h (by rw [List.append_nil, List.take_append_drop]) (by omega) hl hb (by rw [List.length_take]; omega) (by rw [List.length_take]; simp; omega)
theorem rdel_any {w : World} {r : Nat} {v : Value} {L : List Ver} (h : RAt w r v L) (hl : L.length ≤ 1000000) {k : Nat} {u : Ver} (hk : L[k]? = some u) :
    Calls Tryd.prog 38 #[.pointer (some ⟨r, 0, none⟩), .int .i64 k, .int .i64 ((k : Int) + 1), .slice none 0 0] w fun e w' => e = .returned (.tuple #[]) ∧ RPost w r v (L.eraseIdx k) w' := by
  have hkl := (List.getElem?_eq_some_iff.1 hk).1
  have e1 : L = L.take k ++ [u] ++ L.drop (k + 1) := by
    rw [List.append_assoc, List.singleton_append, ← (List.getElem?_eq_some_iff.1 hk).2, List.getElem_cons_drop, List.take_append_drop]
  have hx : ∀ W : World, Src Tryd.prog 5 60 (.slice none 0 0) ([] : List Ver).length (verC []) W := fun W => Src.ofNil W Tryd.underlying60 0
  have h' : RAt w r v (L.take k ++ [u] ++ L.drop (k + 1)) := e1 ▸ h
  have hlen : (L.take k ++ [u] ++ L.drop (k + 1)).length = L.length := by rw [← e1]
  have hc := rput_any h' (by omega) (by omega) (N := []) (Nat.zero_le _) (hx w) (fun w' _ => hx w')
  have ea : (((L.take k).length : Nat) : Int) = k := by rw [List.length_take]; omega
  have ec : (((L.take k).length + [u].length : Nat) : Int) = (k : Int) + 1 := by rw [List.length_take]; simp; omega
  rw [ea, ec] at hc
  refine hc.mono ?_
  rintro e w' ⟨rfl, v', h1, h2, h3⟩
  refine ⟨rfl, v', ?_, h2, fun k e => .inr (h3 k e)⟩
  rw [List.eraseIdx_eq_take_drop_succ]
  simpa using h1
end Go.Proofs.YtmaokoekbjjgfaaDoor
