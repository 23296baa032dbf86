/- crc.All. -/
import Derived.Test.YtojmfjmnfpnmmaaDoorCrcH
import Derived.Test.YtojmfjmnfpnmmaaDoorCrcV
set_option linter.unusedSimpArgs false
set_option linter.unusedVariables false
set_option linter.unnecessarySimpa false
namespace Go.Proofs.YtojmfjmnfpnmmaaDoor
open Go.RowKit

def frs (ls : List (List UInt8)) : List UInt8 := ls.flatMap frameB
def endP (ls : List (List UInt8)) : Nat := (frs ls).length
theorem frs_snoc (ls : List (List UInt8)) (m : List UInt8) : frs (ls ++ [m]) = frs ls ++ frameB m := by simp [frs]
theorem endP_snoc (ls : List (List UInt8)) (m : List UInt8) : endP (ls ++ [m]) = endP ls + (m.length + 7) := by unfold endP; rw [frs_snoc, List.length_append, frameB_len]
/-- ls are bodies of frames with which l begins. -/
structure Begins (l : List UInt8) (ls : List (List UInt8)) : Prop where
  eq : l = frs ls ++ l.drop (endP ls)
  le : ∀ m ∈ ls, m.length ≤ 16384
theorem Begins.nil (l : List UInt8) : Begins l [] := ⟨by simp [frs, endP], fun m hm => by cases hm⟩
theorem Begins.end_le {l : List UInt8} {ls : List (List UInt8)} (h : Begins l ls) : endP ls ≤ l.length := by
  have := congrArg List.length h.eq
  rw [List.length_append, List.length_drop] at this
  unfold endP at *
  omega
theorem Begins.snoc {l : List UInt8} {ls : List (List UInt8)} (h : Begins l ls) (hf : firstP (l.drop (endP ls)) ≠ 0) :
    Begins l (ls ++ [bodyP (l.drop (endP ls))]) ∧ firstP (l.drop (endP ls)) = (bodyP (l.drop (endP ls))).length + 7 ∧ (bodyP (l.drop (endP ls))).length ≤ 16384 := by
  obtain ⟨m, hm, hml, h16, hfm, he, hle⟩ := firstP_pos hf
  have hb : bodyP (l.drop (endP ls)) = m := hm.symm
  rw [hb]
  refine ⟨⟨?_, fun k hk => ?_⟩, hfm, h16⟩
  · rw [endP_snoc, frs_snoc, List.append_assoc]
    rw [List.drop_drop] at he
    rw [← he]
    exact h.eq
  · rcases List.mem_append.1 hk with hk | hk
    · exact h.le k hk
    · rw [List.mem_singleton.1 hk]; exact h16
theorem one_new (W : World) (n : Nat) (hn : W.heap.size = n) (t : TypeId) (c0 : Value) : ∀ (j : Nat) (u : Value), [c0][j]? = some u → (W.alloc (.cells #[c0] t)).cell? ((⟨n, 0, none⟩ : Addr).add j) = some u := by
  intro j u h
  subst hn
  rw [add0, cell_of_row _ _ _ _ _ _ (heap_alloc_new W _)]
  simpa using h
/-- Values that read as bodies, none of them in the row's own block. -/
def Bodies (w : World) (v : Value) (xs : List Value) (ls : List (List UInt8)) : Prop :=
  xs.length = ls.length ∧ ∀ (i : Nat) (x : Value) (m : List UInt8), xs[i]? = some x → ls[i]? = some m → BIs w x m ∧ ∀ a n c, x = .slice (some a) n c → a.block < w.heap.size ∧ v.ownBlock ≠ some a.block
theorem Bodies.below {w w' : World} {v : Value} {xs : List Value} {ls : List (List UInt8)} (h : Bodies w v xs ls) (hb : Below w.heap.size w w') : Bodies w' v xs ls :=
  ⟨h.1, fun i x m hx hm => ⟨(h.2 i x m hx hm).1.below hb, fun a n c e => ⟨Nat.lt_of_lt_of_le ((h.2 i x m hx hm).2 a n c e).1 hb.size, ((h.2 i x m hx hm).2 a n c e).2⟩⟩⟩
theorem Bodies.grown {w w' : World} {v v' : Value} {xs : List Value} {ls : List (List UInt8)} (h : Bodies w v xs ls) (hg : w.grownBy w' v.ownBlock) (hv : v'.ownBlock = v.ownBlock ∨ v'.ownBlock = some w.heap.size) : Bodies w' v' xs ls := by
  refine ⟨h.1, fun i x m hx hm => ?_⟩
  obtain ⟨⟨A, cap, rfl, k1, k2, k3⟩, h2⟩ := h.2 i x m hx hm
  obtain ⟨g1, g2, g3, g4, g5⟩ := hg
  refine ⟨⟨A, cap, rfl, k1, k2, fun j b hj => ?_⟩, fun a n c e => ?_⟩
  · obtain ⟨a, rfl, hab, hc⟩ := k3 j b hj
    obtain ⟨_, hne⟩ := h2 a _ _ rfl
    exact ⟨a, rfl, Nat.lt_of_lt_of_le hab g4, (World.cell?_of_block (a := a.add j) (by rw [add_block]; exact g5 a.block hab (Ne.symm hne))).trans hc⟩
  · obtain ⟨hab, hne⟩ := h2 a n c e
    refine ⟨Nat.lt_of_lt_of_le hab g4, ?_⟩
    rcases hv with hv | hv
    · rw [hv]; exact hne
    · rw [hv]; intro e; injection e with e; omega
theorem Bodies.snoc {w : World} {v : Value} {xs : List Value} {ls : List (List UInt8)} {x : Value} {m : List UInt8} (h : Bodies w v xs ls) (hx : BIs w x m) (hx2 : ∀ a n c, x = .slice (some a) n c → a.block < w.heap.size ∧ v.ownBlock ≠ some a.block) : Bodies w v (xs ++ [x]) (ls ++ [m]) := by
  refine ⟨by simp [h.1], fun i y k hy hk => ?_⟩
  by_cases hi : i < xs.length
  · rw [List.getElem?_append_left hi] at hy
    rw [List.getElem?_append_left (by rw [← h.1]; exact hi)] at hk
    exact h.2 i y k hy hk
  · rw [List.getElem?_append_right (by omega)] at hy
    rw [List.getElem?_append_right (by rw [← h.1]; omega), ← h.1] at hk
    have h0 : i - xs.length = 0 := by
      rcases Nat.eq_zero_or_pos (i - xs.length) with h | h
      · exact h
      · rw [List.getElem?_eq_none (by simp; omega)] at hy; cases hy
    rw [h0] at hy hk
    obtain rfl : x = y := by simpa using hy
    obtain rfl : m = k := by simpa using hk
    exact ⟨hx, hx2⟩
theorem OwnS.lt {w : World} {base : Nat} {v : Value} {l : List Value} (h : OwnS w base v l) : ∀ k, v.ownBlock = some k → base ≤ k ∧ k < w.heap.size := by
  intro k hk
  rcases h with ⟨rfl, _⟩ | ⟨g, cap, rfl, h⟩
  · simp [Value.ownBlock] at hk
  · have : g = k := by simpa [Value.ownBlock] using hk
    subst this
    exact ⟨h.new, h.lt⟩

set_option maxRecDepth 100000 in
set_option maxHeartbeats 4000000 in
theorem all_any {w : World} {v : Value} {l : List UInt8} (hM : Mov w) (h : BIs w v l) (hl : l.length ≤ 1000000) :
    Calls Tryd.prog 8 #[v] w fun e w' => ∃ x xs ls, e = .returned (.tuple #[x, .int .i64 (endP ls : Nat)]) ∧ OwnS w' w.heap.size x xs ∧ Bodies w' x xs ls ∧ Begins l ls ∧ firstP (l.drop (endP ls)) = 0 ∧ Below w.heap.size w w' := by
  have HM := Lib.hid hM
  have HB := Lib.hid h
  have HF := Lib.hid (first_any hM h)
  obtain ⟨A, cap, rfl, hc, hm, h3⟩ := h
  unfold maxLen at hm
  have hl' : (l.length : Int) ≤ 1000000 := by omega
  clear h3 hM
  go_enter Tryd.func8, Tryd.ntmps8
  go_wp2_with fail
  refine (HF.out).mono ?_
  rintro e w1 ⟨rfl, hb1⟩
  have HB1 := Lib.hid hb1
  clear hb1
  go_wp2_with fail
  go_loopw [4, 5, 6] (fun x at' n wr => ∃ xs ls, at' = .int .i64 (endP ls : Nat) ∧ n = .int .i64 (firstP (l.drop (endP ls)) : Nat) ∧ OwnS wr w.heap.size x xs ∧ Bodies wr x xs ls ∧ Begins l ls ∧ Below w.heap.size w wr) (fun _ at' _ _ => l.length - (intOf at').toNat)
  case atStart => exact ⟨[], [], rfl, rfl, Or.inl ⟨rfl, rfl⟩, ⟨rfl, fun i x m hx => by simp at hx⟩, Begins.nil l, HB1.out⟩
  case round =>
    obtain ⟨xs, ls, rfl, rfl, hown, hbo, hbe, hb⟩ := hrel
    by_cases hf : firstP (l.drop (endP ls)) = 0
    · have HOW := Lib.hid hown
      have HBO := Lib.hid hbo
      have HBE := Lib.hid hbe
      have HBb := Lib.hid hb
      have HF0 := Lib.hid hf
      clear hown hbo hbe hb
      rw [hf]
      clear hf
      go_wp2_with fail
      go_ret2
      exact ⟨_, xs, ls, rfl, HOW.out, HBO.out, HBE.out, HF0.out, HBb.out⟩
    · obtain ⟨hbe2, hfn, h16⟩ := hbe.snoc hf
      have hE2 := hbe2.end_le
      rw [endP_snoc] at hE2
      obtain ⟨a, rfl, hat⟩ : ∃ a, A = some a ∧ At w a l := by
        obtain ⟨a', c', e, _, _, hat⟩ := HB.out.at (by intro e; rw [e] at hE2; simp at hE2)
        injection e with e _ _
        exact ⟨a', e, hat⟩
      have hbv : BIs wr (.slice (some (a.add (endP ls))) (l.length - endP ls) (cap - endP ls)) (l.drop (endP ls)) := by
        have := hat.from (endP ls) (l.length - endP ls) cap (by omega) hc (by unfold maxLen; omega)
        rw [List.take_of_length_le (by rw [List.length_drop]; omega)] at this
        exact this.below hb
      have HBODY := Lib.hid (body_at hbv hf)
      have HEND := Lib.hid (endP_snoc ls (bodyP (l.drop (endP ls))))
      have HBE2 := Lib.hid hbe2
      have HAT := Lib.hid hat
      have HOW := Lib.hid hown
      have HBO := Lib.hid hbo
      have HBb := Lib.hid hb
      have hls : ls.length ≤ 1000000 := by
        have : ∀ ls : List (List UInt8), ls.length ≤ endP ls := by
          intro ls
          induction ls with
          | nil => simp [endP, frs]
          | cons m r ih =>
            have : endP (m :: r) = (m.length + 7) + endP r := by unfold endP frs; rw [List.flatMap_cons, List.length_append, frameB_len]
            rw [this, List.length_cons]; omega
        have := this ls
        omega
      rw [hfn]
      rw [hfn] at HBODY
      clear hbe2 hat hbv hown hbo hbe hb hf hfn
      generalize hEE : endP ls = E at *
      have HEE := Lib.hid hEE
      generalize hBB : bodyP (l.drop E) = B at *
      have q1 : (E : Int) ≤ (cap : Int) := by omega
      have q2 : E ≤ cap := by omega
      have q3 : ¬ cap = E := by omega
      have q4 : (0 : Int) < ((B.length + 7 : Nat) : Int) := by omega
      have q5 : ((B.length + 7 : Nat) : Int) ≤ 16391 := by omega
      have HBl : Hid (B.length ≤ 16384) := h16
      clear hEE hBB h16
      generalize hNN : B.length + 7 = N at *
      have HNN := Lib.hid hNN
      clear hNN
      go_wp2_with fail
      refine (HBODY.out).mono ?_
      rintro e w2 ⟨bv, rfl, hO, hb2⟩
      have HB2 := Lib.hid (HBb.out.trans (hb2.mono HBb.out.size))
      have HO2 := Lib.hid (HOW.out.below hb2)
      have key : ∀ row, OwnS wr w.heap.size row xs → ∀ a n c, bv = .slice (some a) n c → a.block < w2.heap.size ∧ row.ownBlock ≠ some a.block := by
        intro row hrow a n c e
        rcases hO with ⟨h, _⟩ | ⟨g, c', h, hC⟩
        · rw [h] at e; cases e
        · rw [h] at e
          injection e with e _ _
          injection e with e
          subst e
          refine ⟨hC.lt, fun hk => ?_⟩
          have h1 : g < wr.heap.size := (hrow.lt _ hk).2
          have h2 : wr.heap.size ≤ g := hC.new
          omega
      have HBO2 := Lib.hid ((HBO.out.below hb2).snoc hO.bis (key _ HOW.out))
      have hsz2 : w.heap.size ≤ w2.heap.size := HB2.out.size
      obtain ⟨A9, c9, rfl, _, _, h39⟩ := hO.bis
      clear hO hb2 h39 key
      have hA := Below.new (w := w2) (.cells #[.slice A9 B.length c9] 23)
      have HO3 := Lib.hid (HO2.out.below hA)
      have HBO3 := Lib.hid (HBO2.out.below hA)
      have HB3 := Lib.hid (HB2.out.trans (hA.mono HB2.out.size))
      have src : Hid (Src Tryd.prog 1 22 (.slice (some ⟨w2.heap.size, 0, none⟩) 1 1) [Value.slice A9 B.length c9].length [.slice A9 B.length c9] (w2.alloc (.cells #[.slice A9 B.length c9] 23))) :=
        Src.ofSlice _ Tryd.underlying22 ⟨w2.heap.size, 0, none⟩ 1 1 [.slice A9 B.length c9] rfl (one_new _ _ rfl _ _) (by simp [Value.oneCell'])
      have hxl : xs.length ≤ 1000000 := by rw [HBO.out.1]; exact hls
      clear hA
      go_wp2_with (at_builtin; refine wpList_append_vals _ rfl _ _ 22 rfl w.heap.size xs [.slice A9 B.length c9] _ _ rfl rfl HO3.out src.out ?_ HB3.out.size ?_)
      · simp; omega
      intro v' w' hown' hgrow hblk
      have HOF := Lib.hid hown'
      have HBOF := Lib.hid (HBO3.out.grown hgrow (by rw [asz]; exact hblk))
      have HBF := Lib.hid (HB3.out.grown hgrow HB3.out.size (fun k hk => (HO3.out.lt k hk).1))
      have hBw : ∀ W, Below w.heap.size w W → At W a l := fun W hW => HAT.out.below hW
      have HFIN : Hid (endP (ls ++ [B]) = E + N) := HEND.out
      have hEN : E + N ≤ l.length := by have := HNN.out; omega
      clear hown' hgrow hblk
      by_cases k1 : cap = E + N
      · have HF2 : Hid (Calls Tryd.prog 27 #[.slice (some a) 0 0] w' fun e w'' => e = .returned (.int .i64 (firstP (l.drop (E + N)) : Nat)) ∧ Below w'.heap.size w' w'') := by
          have h0 : l.drop (E + N) = [] := List.drop_eq_nil_of_le (by omega)
          rw [h0]
          exact first_any (HM.out.below HBF.out) ⟨some a, 0, rfl, Nat.le_refl _, by unfold maxLen; omega, fun i b hi => by simp at hi⟩
        subst k1
        go_wp2_with fail
        refine (HF2.out).mono ?_
        rintro e w4 ⟨rfl, hb4⟩
        have HOG := Lib.hid (HOF.out.below hb4)
        have HBOG := Lib.hid (HBOF.out.below hb4)
        have HBG := Lib.hid (HBF.out.trans (hb4.mono HBF.out.size))
        clear hb4
        go_wp2_with fail
        go_roundw
        case rel => exact ⟨xs ++ [.slice A9 B.length c9], ls ++ [B], by rw [HFIN.out]; go_num, by rw [HFIN.out], HOG.out, HBOG.out, HBE2.out, HBG.out⟩
        case measure => simp [intOf]; omega
      · have k2 : ¬ cap = E + N := k1
        have hv : BIs w' (.slice (some (a.add (E + N))) (l.length - (E + N)) (cap - (E + N))) (l.drop (E + N)) := by
          have := (HAT.out.from (E + N) (l.length - (E + N)) cap (by omega) hc (by unfold maxLen; omega)).below HBF.out
          rwa [List.take_of_length_le (by rw [List.length_drop]; omega)] at this
        have HF2 := Lib.hid (first_any (HM.out.below HBF.out) hv)
        have q6 : (E : Int) + (N : Int) ≤ (cap : Int) := by omega
        clear hv k1
        go_wp2_with fail
        refine (HF2.out).mono ?_
        rintro e w4 ⟨rfl, hb4⟩
        have HOG := Lib.hid (HOF.out.below hb4)
        have HBOG := Lib.hid (HBOF.out.below hb4)
        have HBG := Lib.hid (HBF.out.trans (hb4.mono HBF.out.size))
        clear hb4
        go_wp2_with fail
        go_roundw
        case rel => exact ⟨xs ++ [.slice A9 B.length c9], ls ++ [B], by rw [HFIN.out]; go_num, by rw [HFIN.out], HOG.out, HBOG.out, HBE2.out, HBG.out⟩
        case measure => simp [intOf]; omega
theorem body_frame_rest {l : List UInt8} (hl : l.length ≤ 16384) (rest : List UInt8) : bodyP (frameB l ++ rest) = l := by
  unfold bodyP
  rw [szP_frame hl rest]
  have e : frameB l ++ rest = headB l.length ++ (l ++ (be4 (sumB (preB l)) ++ rest)) := by unfold frameB preB; simp only [List.append_assoc]
  have e3 : (headB l.length).length = 3 := rfl
  rw [e, ← e3, List.drop_left, List.take_left]
theorem Begins.at {l : List UInt8} {ls : List (List UInt8)} (h : Begins l ls) {k : Nat} (hk : k < ls.length) :
    firstP (l.drop (endP (ls.take k))) = ls[k].length + 7 ∧ bodyP (l.drop (endP (ls.take k))) = ls[k] ∧ endP (ls.take (k + 1)) = endP (ls.take k) + (ls[k].length + 7) ∧ endP (ls.take (k + 1)) ≤ l.length ∧ ls[k].length ≤ 16384 := by
  have hle := h.le ls[k] (List.getElem_mem hk)
  have e1 : ls.take (k + 1) = ls.take k ++ [ls[k]] := List.take_succ_eq_append_getElem hk
  have e2 : frs ls = frs (ls.take k) ++ (frameB ls[k] ++ frs (ls.drop (k + 1))) := by
    have : ls = ls.take (k + 1) ++ ls.drop (k + 1) := (List.take_append_drop _ _).symm
    conv => lhs; rw [this]
    unfold frs
    rw [List.flatMap_append, e1, List.flatMap_append]
    simp
  have e3 : l.drop (endP (ls.take k)) = frameB ls[k] ++ (frs (ls.drop (k + 1)) ++ l.drop (endP ls)) := by
    conv => lhs; rw [h.eq, e2]
    unfold endP
    rw [List.append_assoc, List.drop_left, List.append_assoc]
  refine ⟨by rw [e3, firstP_frame hle], by rw [e3, body_frame_rest hle], by rw [e1, endP_snoc], ?_, hle⟩
  have h1 := h.end_le
  have h2 : endP ls = endP (ls.take (k + 1)) + (frs (ls.drop (k + 1))).length := by
    unfold endP
    rw [e1, frs_snoc, e2]
    simp only [List.length_append]
    omega
  omega
theorem len_le_endP (ls : List (List UInt8)) : ls.length ≤ endP ls := by
  induction ls with
  | nil => simp [endP, frs]
  | cons m r ih =>
    have : endP (m :: r) = (m.length + 7) + endP r := by unfold endP frs; rw [List.flatMap_cons, List.length_append, frameB_len]
    rw [this, List.length_cons]; omega

theorem frameB_ne (l : List UInt8) : frameB l ≠ [] := fun h => by
  have := congrArg List.length h
  rw [frameB_len] at this
  simp at this
theorem OwnBy.form {w : World} {base : Nat} {v : Value} {l : List UInt8} (h : OwnBy w base v l) (hne : l ≠ []) : ∃ g c, v = .slice (some ⟨g, 0, none⟩) l.length c ∧ OwnC w base g c l := by
  rcases h with ⟨_, h⟩ | ⟨g, c, h, hc⟩
  · exact absurd h hne
  · exact ⟨g, c, h, hc⟩
theorem OwnC.upto {w : World} {base g cap : Nat} {l : List UInt8} (h : OwnC w base g cap l) (m : Nat) (hm : m ≤ l.length) : BIs w (.slice (some ⟨g, 0, none⟩) m cap) (l.take m) := by
  have hle := h.le
  refine ⟨some ⟨g, 0, none⟩, cap, by rw [List.length_take, Nat.min_eq_left hm], by rw [List.length_take]; omega, h.max, fun i b hi => ⟨_, rfl, h.lt, ?_⟩⟩
  rw [List.getElem?_take] at hi
  rw [add0]
  split at hi
  · exact h.holds _ b hi
  · cases hi

end Go.Proofs.YtojmfjmnfpnmmaaDoor
