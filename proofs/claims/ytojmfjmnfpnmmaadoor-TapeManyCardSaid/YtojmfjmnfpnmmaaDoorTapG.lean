/- The tape: grown; Append's inner function. -/
import Derived.Test.YtojmfjmnfpnmmaaDoorTapF
set_option linter.unusedSimpArgs false
set_option linter.unusedVariables false
set_option linter.unnecessarySimpa false
namespace Go.Proofs.YtojmfjmnfpnmmaaDoor
open Go.RowKit
open Go.Maps (Keyed)

/-- A segment without bytes. -/
def freshE (seg : Int) (sb clock : Nat) : Ent := ⟨seg, sb, .slice none 0 0, [], 0, clock⟩
theorem set_heap {w : World} {r : Nat} {o : Obj} (h : r < w.heap.size) : ({ w with heap := w.heap.setIfInBounds r o } : World).heap[r]? = some o := by
  show (w.heap.setIfInBounds r o)[r]? = _
  rw [Array.getElem?_setIfInBounds_self, if_pos h]
theorem set_other {w : World} {r k : Nat} {o : Obj} (h : r ≠ k) : ({ w with heap := w.heap.setIfInBounds r o } : World).heap[k]? = w.heap[k]? := by
  show (w.heap.setIfInBounds r o)[k]? = _
  rw [Array.getElem?_setIfInBounds_ne h]
theorem set_size {w : World} {r : Nat} {o : Obj} : ({ w with heap := w.heap.setIfInBounds r o } : World).heap.size = w.heap.size := by simp
/-- A segment is put into the map. -/
theorem TapeAt.put {w w' : World} {t : Nat} {T : Tp} (h : TapeAt w t T) {m : Nat} {seg : Int} {sb : Nat} (hn : nameB seg = true) (hL : ∀ e ∈ T.L, e.n ≠ seg) (h64 : T.L.length < 64)
    (hs : w.heap.size ≤ w'.heap.size) (hk : ∀ k, k < w.heap.size → k ≠ t → k ≠ m → w'.heap[k]? = w.heap[k]?)
    (hh : w'.heap[t]? = some (.cells #[.map (some m), .int .i64 (T.room : Int), .bool T.fused, .int .i64 (T.left : Int), .bool T.down] 56 (0, 0)))
    (hm : T.m = some m ∨ (T.m = none ∧ w.heap.size ≤ m)) (hmt : m ≠ sb) (c : Nat) (hM : MapIs Tryd.prog 3 w' m ((T.L ++ [freshE seg sb c]).map Ent.me) (c + 1)) (hsb : w.heap.size ≤ sb)
    (hseg : w'.heap[sb]? = some (.cells #[.slice none 0 0, .int .i64 0] 66 (0, 0))) : TapeAt w' t { T with m := some m, L := T.L ++ [freshE seg sb c], clock := c + 1 } := by
  have hmE : ∀ x ∈ T.L, ∀ k ∈ x.blocks, k ≠ m := by
    intro x hx k hk e
    rcases hm with hm | ⟨hm, hm2⟩
    · exact (h.sep.te x hx k hk).2 (by rw [hm, e])
    · have := h.ltE x hx k hk; omega
  have hsep : Sep t (some m) T.L := by
    refine ⟨?_, fun x hx k hk => ⟨(h.sep.te x hx k hk).1, fun e => hmE x hx k hk (Option.some.inj e).symm⟩, h.sep.ee, h.sep.own⟩
    rcases hm with hm | ⟨hm, hm2⟩
    · rw [← hm]; exact h.sep.tm
    · intro e
      have := h.ltT
      have := Option.some.inj e
      omega
  obtain ⟨hn0, hn1⟩ := nameB_iff.1 hn
  refine ⟨hh, hM, fun x hx => ?_, ?_, by simp; omega, by rw [used_snoc]; exact h.used, h.room, h.left⟩
  · rcases List.mem_append.1 hx with hx | hx
    · exact (h.segs x hx).keep hs fun k hkx => hk k (h.ltE x hx k hkx) (h.sep.te x hx k hkx).1 (hmE x hx k hkx)
    · obtain rfl : x = freshE seg sb c := by simpa using hx
      exact ⟨hseg, .nil _ _, Nat.le_refl _, hn0, hn1⟩
  · have hfb : ∀ k ∈ (freshE seg sb c).blocks, k = sb := by
      intro k hk
      rcases List.mem_cons.1 hk with h1 | h1
      · exact h1
      · cases h1
    refine hsep.snoc w.heap.size h.ltE h.ltT ?_ ?_ (fun e => by cases e)
    · intro k hkx
      rw [hfb k hkx]
      exact fun e => hmt (Option.some.inj e)
    · intro k hkx
      rw [hfb k hkx]; exact hsb

theorem mapMade_at {W : World} {n : Nat} (h : W.heap.size = n) : MapIs Tryd.prog 3 (W.alloc (.map #[] 0)) n [] 0 := by subst h; exact MapIs.made _ _ W
/-- grown: the segment is there. -/
theorem grown_hit {w : World} {t : Nat} {T : Tp} (hT : TapeAt w t T) {seg : Int} (hn : nameB seg = true) {j : Nat} {e : Ent} (hj : T.L[j]? = some e) (he : e.n = seg) : Calls Tryd.prog 35 #[.pointer (some ⟨t, 0, none⟩), .int .i64 seg] w fun x w' => x = .returned (.pointer (some ⟨e.sb, 0, none⟩)) ∧ w = w' := by
  have hc : w.cell? ⟨t, 0, none⟩ = some (.map T.m) := cell_of hT.head 0
  have HM := Lib.hid hT.map
  have HNN := Lib.hid hn
  have HJ := Lib.hid hj
  have HE := Lib.hid he
  obtain ⟨m, hm⟩ : ∃ m, T.m = some m := by
    have := hT.map
    cases h : T.m with
    | none => rw [h] at this; rw [show T.L = [] from this] at hj; cases hj
    | some m => exact ⟨m, rfl⟩
  rw [hm] at hc HM
  have qT : ∀ (w : World), (binOp .eql 54 (.map (some m)) (.map none)).run Tryd.prog w = .ok (.bool false) w := fun w => run_eql_map_nil w _ _ _ (some m) Tryd.underlying54
  clear hn hj he hm
  go_enter Tryd.func35, Tryd.ntmps35
  go_wp2_with (at_lookup; refine wpList_tape_hit _ rfl _ _ rfl HM.out rfl seg rfl HNN.out HJ.out HE.out ?_)
  go_wp2
  go_ret
  exact ⟨rfl, rfl⟩
/-- What a growing leaves: the segment is there, without bytes. -/
def GrownP (w : World) (t : Nat) (T : Tp) (seg : Int) (x : Ending) (w' : World) : Prop := ∃ (T' : Tp) (sb c : Nat), x = .returned (.pointer (some ⟨sb, 0, none⟩)) ∧ T'.L = T.L ++ [freshE seg sb c] ∧ T'.room = T.room ∧ T'.fused = T.fused ∧ T'.left = T.left ∧ T'.down = T.down ∧ TapeAt w' t T' ∧ Touch (fun k => k = t ∨ T.m = some k) w w' ∧ (∀ k ∈ T'.blocks t, k ∈ T.blocks t ∨ w.heap.size ≤ k)
theorem grown_blocks {w : World} {t : Nat} {T T' : Tp} {m sb c : Nat} {seg : Int} (hL : T'.L = T.L ++ [freshE seg sb c]) (hm' : T'.m = some m) (hm : T.m = some m ∨ w.heap.size ≤ m) (hsb : w.heap.size ≤ sb) : ∀ k ∈ T'.blocks t, k ∈ T.blocks t ∨ w.heap.size ≤ k := by
  intro k hk
  rcases mem_blocks.1 hk with h | h | ⟨e, he, h⟩
  · exact .inl (mem_blocks.2 (.inl h))
  · rw [hm'] at h
    cases h
    rcases hm with hm | hm
    · exact .inl (mem_blocks.2 (.inr (.inl hm)))
    · exact .inr hm
  · rw [hL] at he
    rcases List.mem_append.1 he with he | he
    · exact .inl (mem_blocks.2 (.inr (.inr ⟨e, he, h⟩)))
    · obtain rfl : e = freshE seg sb c := by simpa using he
      rcases List.mem_cons.1 h with h1 | h1
      · exact .inr (by rw [h1]; exact hsb)
      · cases h1
set_option maxRecDepth 100000 in
theorem grown_miss {w : World} {t : Nat} {T : Tp} (hT : TapeAt w t T) {seg : Int} (hn : nameB seg = true) (hL : ∀ e ∈ T.L, e.n ≠ seg) (h64 : T.L.length < 64) : Calls Tryd.prog 35 #[.pointer (some ⟨t, 0, none⟩), .int .i64 seg] w (GrownP w t T seg) := by
  have hc : w.cell? ⟨t, 0, none⟩ = some (.map T.m) := cell_of hT.head 0
  have hf : w.frozen? ⟨t, 0, none⟩ = false := free0 hT.head 0
  have hlt := hT.ltT
  have HT := Lib.hid hT
  have HNN := Lib.hid hn
  have HL := Lib.hid hL
  have HKEY := Lib.hid (key_int hn)
  have HMISS := Lib.hid (me_miss hL)
  cases hTm : T.m with
  | some m =>
    have HM : Hid (MapIs Tryd.prog 3 w m (T.L.map Ent.me) T.clock) := by have := hT.map; rw [hTm] at this; exact this
    have hml := MapIs.lt HM.out
    have HTM := Lib.hid hTm
    rw [hTm] at hc
    have hmt : m ≠ t := fun e => hT.sep.tm (by rw [hTm, e])
    have qT : ∀ (w : World), (binOp .eql 54 (.map (some m)) (.map none)).run Tryd.prog w = .ok (.bool false) w := fun w => run_eql_map_nil w _ _ _ (some m) Tryd.underlying54
    clear hn hL hTm hT
    go_enter Tryd.func35, Tryd.ntmps35
    go_wp2_with (first | (at_lookup; refine wpList_look_miss _ rfl _ _ 54 false rfl keyed Tryd.underlying54 (zeroPtr _) HM.out rfl _ _ rfl HKEY.out HMISS.out ?_) | (at_mapUpdate; refine wpList_put_miss _ rfl _ _ _ 54 rfl keyed Tryd.underlying54 (HM.out.keep (Below.heap_alloc _ _ _ hml)) rfl _ _ rfl HKEY.out _ rfl HMISS.out ?_; intro w2 hw2 hM2))
    have HW2 := Lib.hid hw2
    have HM2 := Lib.hid hM2
    clear hw2 hM2
    go_wp2
    go_ret
    have e2 := HW2.out
    subst e2
    refine ⟨{ T with m := some m, L := T.L ++ [freshE seg w.heap.size T.clock], clock := T.clock + 1 }, w.heap.size, T.clock, rfl, rfl, rfl, rfl, rfl, rfl, ?_, ?_, grown_blocks rfl rfl (.inl HTM.out) (Nat.le_refl _)⟩
    · refine HT.out.put HNN.out HL.out h64 (by rw [set_size, asz]; omega) (fun k hk hkt hkm => ?_) ?_ (.inl HTM.out) (by omega) T.clock ?_ (Nat.le_refl _) ?_
      · rw [set_other (by omega)]; exact Below.heap_alloc _ _ _ hk
      · rw [set_other hmt, Below.heap_alloc _ _ _ hlt, HT.out.head, HTM.out]
      · rw [List.map_append]; exact HM2.out
      · rw [set_other (by omega)]; exact alloc_at _ _
    · exact ((Touch.refl _ _).alloc _).set m _ (fun _ => .inr HTM.out)
  | none =>
    have HTM := Lib.hid hTm
    have HLE : Hid (T.L = []) := by have := hT.map; rw [hTm] at this; exact this
    rw [hTm] at hc
    have hmm := @run_makeMap Tryd.prog
    have qT : ∀ (w : World), (binOp .eql 54 (.map none) (.map none)).run Tryd.prog w = .ok (.bool true) w := fun w => run_eql_map_nil w _ _ _ none Tryd.underlying54
    clear hn hL hTm hT
    go_enter Tryd.func35, Tryd.ntmps35
    have HM0 := Lib.hid (mapMade_at (setCell_size w ⟨t, 0, none⟩ (.map (some w.heap.size))))
    have HMP : Hid (∀ o, MapIs Tryd.prog 3 (((w.setCell ⟨t, 0, none⟩ (.map (some w.heap.size))).alloc (.map #[] 0)).alloc o) w.heap.size [] 0) := fun o => HM0.out.keep (Below.heap_alloc _ _ _ (by rw [asz, setCell_size]; omega))
    go_wp2_with (first | (at_lookup; refine wpList_look_miss _ rfl _ _ 54 false rfl keyed Tryd.underlying54 (zeroPtr _) HM0.out rfl _ _ rfl HKEY.out (by simp) ?_) | (at_mapUpdate; refine wpList_put_miss _ rfl _ _ _ 54 rfl keyed Tryd.underlying54 (HMP.out _) rfl _ _ rfl HKEY.out _ rfl (by simp) ?_; intro w2 hw2 hM2))
    have HW2 := Lib.hid hw2
    have HM2 := Lib.hid hM2
    clear hw2 hM2
    go_wp2
    go_ret
    have e2 := HW2.out
    subst e2
    have hsz := setCell_size w ⟨t, 0, none⟩ (.map (some w.heap.size))
    refine ⟨{ T with m := some w.heap.size, L := T.L ++ [freshE seg (w.heap.size + 1) 0], clock := 0 + 1 }, w.heap.size + 1, 0, rfl, rfl, rfl, rfl, rfl, rfl, ?_, ?_, grown_blocks rfl rfl (.inr (Nat.le_refl _)) (Nat.le_succ _)⟩
    · refine HT.out.put HNN.out HL.out h64 (by rw [set_size, asz, asz, hsz]; omega) (fun k hk hkt hkm => ?_) ?_ (.inr ⟨HTM.out, Nat.le_refl _⟩) (by omega) 0 ?_ (Nat.le_succ _) ?_
      · rw [set_other (by omega), Below.heap_alloc _ _ _ (by rw [asz, hsz]; omega), Below.heap_alloc _ _ _ (by rw [hsz]; exact hk)]
        exact Below.heap_setCell _ _ _ _ hkt
      · rw [set_other (by omega), Below.heap_alloc _ _ _ (by rw [asz, hsz]; omega), Below.heap_alloc _ _ _ (by rw [hsz]; exact hlt), set_at HT.out.head 0]
        rfl
      · rw [HLE.out]; exact HM2.out
      · have h1 := alloc_at ((w.setCell ⟨t, 0, none⟩ (.map (some w.heap.size))).alloc (.map #[] 0)) (.cells #[.slice none 0 0, .int .i64 0] 66)
        rw [asz, hsz] at h1
        rw [set_other (by omega)]
        exact h1
    · exact ((((Touch.refl _ _).setCell ⟨t, 0, none⟩ (fun _ => .inl rfl) _).alloc _).alloc _).set w.heap.size _ (fun h => absurd h (Nat.lt_irrefl _))
end Go.Proofs.YtojmfjmnfpnmmaaDoor
