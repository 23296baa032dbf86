/- order: the law's users, cut: what is put together of them. order: the law's users walked. order: the law of rising tickets, in plain words and in memory. -/
import Derived.Test.YtlbhpeeggbfcpaaZOrdE
import Derived.Test.YtlbhpeeggbfcpaaZOrdT
import Derived.Test.YtlbhpeeggbfcpaaZOrdO
set_option linter.unusedSimpArgs false
set_option linter.unusedVariables false
set_option linter.unnecessarySimpa false
namespace Go.Proofs.Ytlbhpeeggbfcpaa
open Go.RowKit

theorem infoR : (Try.prog.info? 32).map (fun i => (i.zero, i.size, i.bytes)) = some (some (.agg #[.int .i64 0, .slice none 0 0]), 2, 32) := by kernel_rfl
/-- A user is put at the end of a row of users. -/
theorem app_usrR {w : World} {v : Value} {l : List (Int × Value)} (x : Int) (s : Value) (hs1 : s.oneCell' = true) (ty : TypeId) (h : RowIs w 2 v l.length (uC l)) (hl : l.length ≤ 1000000) : ∃ v' w', (Builtin.append_ #[22, 22] ty #[v, .slice (some ⟨w.heap.size, 0, none⟩) 1 1]).run Try.prog (w.alloc (.cells #[.int .i64 x, s] 32)) = .ok v' w' ∧ RowIs w' 2 v' (l ++ [(x, s)]).length (uC (l ++ [(x, s)])) ∧ Touch (fun k => v.ownBlock = some k) w w' ∧ (∀ k, v'.ownBlock = some k → v.ownBlock = some k ∨ w.heap.size ≤ k) := by
  have hb := below_new (w := w) (.cells #[.int .i64 x, s] 32)
  have hsrc : Src Try.prog 2 22 (.slice (some ⟨w.heap.size, 0, none⟩) 1 1) 1 [.int .i64 x, s] (w.alloc (.cells #[.int .i64 x, s] 32)) :=
    Src.ofSlice _ Try.underlying22 ⟨w.heap.size, 0, none⟩ 1 1 [.int .i64 x, s] rfl (two_new _ _ rfl _ _ _) (fun u hu => by
      rcases List.mem_cons.1 hu with rfl | hu
      · rfl
      · rw [List.mem_singleton.1 hu]; exact hs1)
  obtain ⟨v', w', hr, h2, h3, h4⟩ := run_append_row (w.alloc (.cells #[.int .i64 x, s] 32)) 22 32 ty 22 Try.underlying22 infoR rfl (by omega) (by omega) v l.length 1 (uC l) [.int .i64 x, s] _ (h.below hb) hsrc (by omega)
  refine ⟨v', w', hr, by rw [List.length_append, uC_snoc]; exact h2, (Touch.of_below hb).grown h3 (fun k hk _ => hk), fun k hk => ?_⟩
  rcases h4 with e | e
  · exact .inl (e ▸ hk)
  · right
    rw [e] at hk
    have := Option.some.inj hk
    rw [asz] at this
    omega
/-- No more than ten users, of six sites each. -/
def cutU (l : Gr) : Gr := (l.take 10).map fun u => (u.1, u.2.take 6)
structure UsI (w wr : World) (l : Gr) (k : Nat) (av bv : Value) (ss : List (Int × Value)) : Prop where
  len : ss.length = k
  each : ∀ (j : Nat) (e : Int × Value) (u : Int × List Int), ss[j]? = some e → l[j]? = some u → e.1 = u.1 ∧ SIs w e.2 (u.2.take 6)
  ra : RowIs wr 2 av ss.length (uC ss)
  rb : RowIs wr 2 bv ss.length (uC ss)
  oa : ∀ b, av.ownBlock = some b → w.heap.size ≤ b ∧ bv.ownBlock ≠ some b
  ob : ∀ b, bv.ownBlock = some b → w.heap.size ≤ b
  bel : Below w.heap.size w wr
theorem UsI.start (w : World) (l : Gr) : UsI w w l 0 (.slice none 0 0) (.slice none 0 0) [] :=
  ⟨rfl, (fun j e u h => by simp at h), RowIs.nil _ _, RowIs.nil _ _, (fun b e => by cases e), (fun b e => by cases e), Below.refl _ _⟩
theorem UsI.below {w wr w' : World} {l : Gr} {k : Nat} {av bv : Value} {ss : List (Int × Value)} (h : UsI w wr l k av bv ss) (hb : Below wr.heap.size wr w') : UsI w w' l k av bv ss :=
  ⟨h.len, h.each, h.ra.below hb, h.rb.below hb, h.oa, h.ob, h.bel.trans (hb.mono h.bel.size)⟩
theorem UsI.done {w wr : World} {l : Gr} {k : Nat} {av bv : Value} {ss : List (Int × Value)} (h : UsI w wr l k av bv ss) (hk : k = min 10 l.length) : UIs wr av (cutU l) ∧ UIs wr bv (cutU l) ∧ Below w.heap.size w wr := by
  have hlen : ss.length = (cutU l).length := by unfold cutU; rw [List.length_map, List.length_take, h.len, hk]
  have hE : ∀ (i : Nat) (e : Int × Value) (u : Int × List Int), ss[i]? = some e → (cutU l)[i]? = some u → e.1 = u.1 ∧ SIs wr e.2 u.2 := fun i e u he hu => by
    unfold cutU at hu
    rw [List.getElem?_map] at hu
    have hi : i < 10 := by have := (List.getElem?_eq_some_iff.1 he).1; rw [h.len] at this; omega
    rw [List.getElem?_take_of_lt hi] at hu
    cases hx : l[i]? with
    | none => rw [hx] at hu; cases hu
    | some x =>
      rw [hx] at hu
      have hu : (x.1, x.2.take 6) = u := by simpa using hu
      subst hu
      obtain ⟨e1, e2⟩ := h.each i e x he hx
      exact ⟨e1, e2.below h.bel⟩
  exact ⟨uis_row h.ra hlen hE, uis_row h.rb hlen hE, h.bel⟩
theorem UsI.next {w wr W1 : World} {l : Gr} {k : Nat} {av bv : Value} {ss : List (Int × Value)} (h : UsI w wr l k av bv ss) {u : Int × List Int} (hu : l[k]? = some u) (hk : k ≤ 100) (hb : Below wr.heap.size wr W1) {s : Value} (hs : SIs w s (u.2.take 6)) (hs1 : s.oneCell' = true) :
    ∃ av' w2 bv' w4, (Builtin.append_ #[23, 23] 23 #[av, .slice (some ⟨W1.heap.size, 0, none⟩) 1 1]).run Try.prog (W1.alloc (.cells #[.int .i64 u.1, s] 61)) = .ok av' w2 ∧ (∀ b, wr.heap.size ≤ b → b < W1.heap.size → w2.heap[b]? = W1.heap[b]?) ∧
      (Builtin.append_ #[22, 22] 22 #[bv, .slice (some ⟨w2.heap.size, 0, none⟩) 1 1]).run Try.prog (w2.alloc (.cells #[.int .i64 u.1, s] 32)) = .ok bv' w4 ∧ UsI w w4 l (k + 1) av' bv' (ss ++ [(u.1, s)]) := by
  have h1 := h.below hb
  have hl : ss.length ≤ 1000000 := by rw [h.len]; omega
  obtain ⟨av', w2, r1, r2, r3, r4⟩ := app_usr u.1 s hs1 23 h1.ra hl
  have hbv : RowIs w2 2 bv ss.length (uC ss) := h1.rb.touch r3 (fun b hb e => (h.oa b e).2 hb)
  obtain ⟨bv', w4, q1, q2, q3, q4⟩ := app_usrR u.1 s hs1 22 hbv hl
  have hzz := hb.size
  have hz : w.heap.size ≤ W1.heap.size := Nat.le_trans h.bel.size hb.size
  refine ⟨av', w2, bv', w4, r1, fun b h5 h6 => r3.block b h6 (fun e => by have := h.ra.lt b e; omega), q1, ?_, fun j e v he hv => ?_, ?_, q2, fun b hb => ?_, fun b hb => ?_, ?_⟩
  · rw [List.length_append, h.len]; rfl
  · by_cases hj : j < ss.length
    · rw [List.getElem?_append_left hj] at he
      exact h.each j e v he hv
    · have hj2 : j = ss.length := by
        have := (List.getElem?_eq_some_iff.1 he).1
        rw [List.length_append, List.length_singleton] at this
        omega
      subst hj2
      rw [List.getElem?_append_right (Nat.le_refl _), Nat.sub_self] at he
      have he : (u.1, s) = e := by simpa using he
      subst he
      rw [h.len, hu] at hv
      injection hv with hv
      subst hv
      exact ⟨rfl, hs⟩
  · refine r2.touch q3 (fun b hb e => ?_)
    rcases r4 b hb with e' | e'
    · exact (h.oa b e').2 e
    · have := h.rb.lt b e
      have := hb
      omega
  · refine ⟨?_, fun e => ?_⟩
    · rcases r4 b hb with e' | e'
      · exact (h.oa b e').1
      · omega
    · have hlt := r2.lt b hb
      rcases q4 b e with e' | e'
      · rcases r4 b hb with e2 | e2
        · exact (h.oa b e2).2 e'
        · have := h.rb.lt b e'; have := hb; omega
      · omega
  · rcases q4 b hb with e | e
    · exact h.ob b e
    · have := r3.size; omega
  · have hT : Touch (fun b => av.ownBlock = some b ∨ bv.ownBlock = some b) W1 w4 := (r3.mono (fun _ _ e => .inl e)).trans q3 (fun _ _ e => .inr e)
    exact h1.bel.trans (hT.below (fun b e => by
      rcases e with e | e
      · exact (h.oa b e).1
      · exact h.ob b e) h1.bel.size)
end Go.Proofs.Ytlbhpeeggbfcpaa

namespace Go.Proofs.Ytlbhpeeggbfcpaa
open Go.RowKit

set_option maxRecDepth 100000 in
set_option maxHeartbeats 4000000 in
theorem users_any {w : World} {v : Value} {l : Gr} (h : UIs w v l) : Calls Try.prog 6 #[v] w fun e w' => ∃ va vb, e = .returned (.tuple #[va, vb]) ∧ UIs w' va (cutU l) ∧ UIs w' vb (cutU l) ∧ Below w.heap.size w w' := by
  obtain ⟨A, cap, rfl, h1, h2, _⟩ := id h
  unfold maxLen at h2
  have HU := Lib.hid h
  clear h
  go_enter Try.func6, Try.ntmps6
  go_wp2_with fail
  go_loopw [4, 5, 10] (fun av bv iv wr => ∃ (k : Nat) (ss : List (Int × Value)), k ≤ l.length ∧ k ≤ 10 ∧ iv = .int .i64 k ∧ UsI w wr l k av bv ss) (fun _ _ iv _ => l.length - (intOf iv).toNat)
  case atStart => exact ⟨0, [], Nat.zero_le _, by omega, rfl, UsI.start _ _⟩
  case round =>
    obtain ⟨k, ss, hk, hk10, rfl, hI⟩ := hrel
    by_cases hlt : k < l.length
    · have hx : l[k]? = some l[k] := List.getElem?_eq_getElem hlt
      generalize l[k] = u at hx
      obtain ⟨_, _, e', _, _, h4⟩ := id HU.out
      injection e' with e1 _ e3
      subst e1 e3
      obtain ⟨a, sv, rfl, ha, k0w, k1w, hsv⟩ := h4 k u hx
      obtain ⟨g, sl⟩ := u
      obtain ⟨B, scap, rfl, hs1, hs2, hs3⟩ := id hsv
      have k0 := (hI.bel.cell (p := a.add (k * 2)) (by rw [add_block]; exact ha)).trans k0w
      have k1 : wr.cell? ⟨(a.add (k * 2)).block, (a.add (k * 2)).off + 1, none⟩ = some (.slice B sl.length scap) := (hI.bel.cell (p := (a.add (k * 2)).add 1) (by rw [add_block, add_block]; exact ha)).trans k1w
      have hi : (k : Int) < (l.length : Int) := by omega
      have hat := alloc_at wr (.cells #[.int .i64 g, .slice B sl.length scap] 32)
      have hbn := below_new (w := wr) (.cells #[.int .i64 g, .slice B sl.length scap] 32)
      have HI1 := Lib.hid (hI.below hbn)
      have hz1 := asz wr (.cells #[.int .i64 g, .slice B sl.length scap] 32)
      have c0 := cell_of hat 0
      have c1 := cell_of hat 1
      simp at c0 c1
      by_cases h10 : 10 ≤ k
      · have hge : (10 : Int) ≤ (k : Int) := by omega
        have HFI := Lib.hid ((hI.below hbn).done (by omega))
        clear hI hbn h4 k0w k1w hsv hs3 hx HI1 hlt hk hk10 h10
        go_wp2_with fail
        refine bodyPost_ret (v := .tuple #[u4, u5]) (by simp [results, Try.results6, go_sem]) rfl ⟨_, _, rfl, HFI.out⟩
      · have hge : ¬ ((10 : Int) ≤ (k : Int)) := by omega
        unfold maxLen at hs2
        have hs1 : sl.length ≤ scap := hs1
        by_cases h6 : 6 < sl.length
        · have h6' : (6 : Int) < (sl.length : Int) := by omega
          have hsc : 6 ≤ scap := by have : sl.length ≤ scap := hs1; omega
          have hs6 : SIs w (.slice B 6 scap) ((g, sl).2.take 6) := by
            have : (sl.take 6).length = 6 := by rw [List.length_take]; omega
            refine ⟨B, scap, by show _ = Value.slice B (sl.take 6).length scap; rw [this], by show (sl.take 6).length ≤ scap; omega, by unfold maxLen; omega, fun i x hx => hs3 i x ?_⟩
            have hx : (sl.take 6)[i]? = some x := hx
            have hi6 : i < 6 := by have := (List.getElem?_eq_some_iff.1 hx).1; rw [List.length_take] at this; omega
            rwa [List.getElem?_take_of_lt hi6] at hx
          have hb6 := below_new (w := wr) (.cells #[.int .i64 g, .slice B 6 scap] 32)
          have hat6 := alloc_at wr (.cells #[.int .i64 g, .slice B 6 scap] 32)
          have hz6 := asz wr (.cells #[.int .i64 g, .slice B 6 scap] 32)
          have f1 := free0 hat 1
          obtain ⟨av', w2, bv', w4, r1, r2, r3, r4⟩ := hI.next hx (by omega) hb6 hs6 rfl
          rw [hz6] at r1 r2
          have hat2 := (r2 _ (Nat.le_refl _) (by omega)).trans hat6
          have d0 := cell_of hat6 0
          have d1 := cell_of hat6 1
          have g0 := cell_of hat2 0
          have g1 := cell_of hat2 1
          simp at d0 d1 g0 g1
          have HF := Lib.hid r4
          have HLT := Lib.hid hlt
          have HK : Hid (k + 1 ≤ 10) := Lib.hid (by omega)
          clear hI hbn h4 k0w k1w hsv hs3 hx HI1 hlt hk hk10 h10 hat6 hat2 hb6 hs6 hat r2 r4 hs1
          go_wp2_with (at_builtin; first | (refine wpList_app_run rfl _ _ _ _ rfl rfl rfl r1 ?_) | (refine wpList_app_run rfl _ _ _ _ rfl rfl rfl r3 ?_))
          go_roundw
          case rel => exact ⟨k + 1, _, HLT.out, HK.out, by go_num, HF.out⟩
          case measure => have := HLT.out; simp [intOf]; omega
        · have h6' : ¬ ((6 : Int) < (sl.length : Int)) := by omega
          have hs6 : SIs w (.slice B sl.length scap) ((g, sl).2.take 6) := by
            show SIs w _ (sl.take 6)
            rw [List.take_of_length_le (by omega)]
            exact hsv
          obtain ⟨av', w2, bv', w4, r1, r2, r3, r4⟩ := hI.next hx (by omega) hbn hs6 rfl
          rw [hz1] at r1 r2
          have hat2 := (r2 _ (Nat.le_refl _) (by omega)).trans hat
          have g0 := cell_of hat2 0
          have g1 := cell_of hat2 1
          simp at g0 g1
          have HF := Lib.hid r4
          have HLT := Lib.hid hlt
          have HK : Hid (k + 1 ≤ 10) := Lib.hid (by omega)
          clear hI hbn h4 k0w k1w hsv hs3 hx HI1 hlt hk hk10 h10 hat2 hs6 hat r2 r4 hs1
          go_wp2_with (at_builtin; first | (refine wpList_app_run rfl _ _ _ _ rfl rfl rfl r1 ?_) | (refine wpList_app_run rfl _ _ _ _ rfl rfl rfl r3 ?_))
          go_roundw
          case rel => exact ⟨k + 1, _, HLT.out, HK.out, by go_num, HF.out⟩
          case measure => have := HLT.out; simp [intOf]; omega
    · obtain rfl : k = l.length := by omega
      have HFI := Lib.hid (hI.done (by omega))
      clear hI hlt hk
      go_wp2_with fail
      refine bodyPost_ret (v := .tuple #[u4, u5]) (by simp [results, Try.results6, go_sem]) rfl ⟨_, _, rfl, HFI.out⟩
end Go.Proofs.Ytlbhpeeggbfcpaa

namespace Go.Proofs.Ytlbhpeeggbfcpaa
open Go.RowKit

/-- Sites, each once, rising. -/
def sitesP (s : List Int) : List Int := s.foldl (fun o x => intoP o x) []
theorem sites_holds (s : List Int) : (sitesP s).Pairwise (· < ·) ∧ (sitesP s).length ≤ s.length := by
  refine snoc_ind (p := fun s => (sitesP s).Pairwise (· < ·) ∧ (sitesP s).length ≤ s.length) s ⟨List.Pairwise.nil, Nat.le_refl _⟩ ?_
  rintro s x ⟨h1, h2⟩
  have e : sitesP (s ++ [x]) = intoP (sitesP s) x := by unfold sitesP; rw [List.foldl_append]; rfl
  rw [e]
  have := intoP_len x h1
  rw [List.length_append, List.length_singleton]
  exact ⟨(intoP_rise x h1).1, by omega⟩
theorem sites_take {s : List Int} {k : Nat} {x : Int} (h : s[k]? = some x) : sitesP (s.take (k + 1)) = intoP (sitesP (s.take k)) x := foldl_take _ _ h
/-- The users as the law numbers them. -/
structure NowP (N : Gr) : Prop where
  few : N.length ≤ 10
  num : ∀ (j : Nat) (u : Int × List Int), N[j]? = some u → u.1 = j
  small : ∀ u ∈ N, u.2.length ≤ 6
theorem NowP.cut {N : Gr} (h : NowP N) : cutU N = N := by
  unfold cutU
  rw [List.take_of_length_le h.few]
  have : ∀ u ∈ N, (u.1, u.2.take 6) = u := fun u hu => by rw [List.take_of_length_le (h.small u hu)]
  calc N.map (fun u => (u.1, u.2.take 6)) = N.map id := List.map_congr_left (fun u hu => this u hu)
    _ = N := List.map_id N
theorem NowP.nil : NowP [] := ⟨by simp, (fun j u h => by simp at h), (fun u h => by cases h)⟩
theorem NowP.snoc {N : Gr} (h : NowP N) (hl : N.length < 10) {s : List Int} (hs : s.length ≤ 6) : NowP (N ++ [(((N.length : Nat) : Int), s)]) := by
  refine ⟨by rw [List.length_append, List.length_singleton]; omega, fun j u hu => ?_, fun u hu => ?_⟩
  · by_cases hj : j < N.length
    · rw [List.getElem?_append_left hj] at hu
      exact h.num j u hu
    · have hj2 : j = N.length := by
        have := (List.getElem?_eq_some_iff.1 hu).1
        rw [List.length_append, List.length_singleton] at this
        omega
      subst hj2
      rw [List.getElem?_append_right (Nat.le_refl _), Nat.sub_self] at hu
      have hu : (((N.length : Nat) : Int), s) = u := by simpa using hu
      subst hu
      rfl
  · rcases List.mem_append.1 hu with hu | hu
    · exact h.small u hu
    · rw [List.mem_singleton.1 hu]; exact hs
/-- The tickets that were taken, ahead of turn i. -/
structure TookI (N : Gr) (T : List Tk) (i : Nat) : Prop where
  n : ∀ t ∈ T, t.n < i
  rise : T.Pairwise fun x y => x.n < y.n
  up : T.Pairwise fun x y => x.site = y.site → x.g ≤ y.g
  own : ∀ t ∈ T, ∀ u ∈ N, t.site ∈ u.2 → t.g ≤ u.1
  g : ∀ t ∈ T, 0 ≤ t.g ∧ t.g < 10
  len : T.length ≤ i ∧ T.length ≤ 40
theorem TookI.nil (N : Gr) : TookI N [] 0 := ⟨(fun t h => by cases h), List.Pairwise.nil, List.Pairwise.nil, (fun t h => by cases h), (fun t h => by cases h), ⟨Nat.le_refl _, by simp⟩⟩
theorem TookI.skip {N : Gr} {T : List Tk} {i : Nat} (h : TookI N T i) : TookI N T (i + 1) :=
  ⟨fun t ht => by have := h.n t ht; omega, h.rise, h.up, h.own, h.g, by have := h.len; omega⟩
theorem TookI.fin {N : Gr} {T : List Tk} {i : Nat} (h : TookI N T i) : OnceP T ∧ RisP T := by
  refine ⟨h.rise.imp (fun {x y} h e => by omega), fun x hx y hy he hn => ?_⟩
  obtain ⟨a, ha⟩ := List.getElem?_of_mem hx
  obtain ⟨b, hb⟩ := List.getElem?_of_mem hy
  obtain ⟨ha1, ha2⟩ := List.getElem?_eq_some_iff.1 ha
  obtain ⟨hb1, hb2⟩ := List.getElem?_eq_some_iff.1 hb
  have h1 := List.pairwise_iff_getElem.1 h.rise
  have h2 := List.pairwise_iff_getElem.1 h.up
  rcases Nat.lt_trichotomy a b with hab | hab | hab
  · have := h2 a b ha1 hb1 hab
    rw [ha2, hb2] at this
    exact this he
  · subst hab
    rw [ha] at hb
    injection hb with hb
    subst hb
    omega
  · have := h1 b a hb1 ha1 hab
    rw [ha2, hb2] at this
    omega
theorem NowP.left {N : Gr} (h : NowP N) {g : Nat} {sl : List Int} (hg : N[g]? = some ((g : Int), sl)) (site : Int) : NowP (N.set g ((g : Int), sl.filter fun s => !(s == site))) := by
  have hl := (List.getElem?_eq_some_iff.1 hg).1
  refine ⟨by rw [List.length_set]; exact h.few, fun j u hu => ?_, fun u hu => ?_⟩
  · rw [List.getElem?_set] at hu
    split at hu
    · next e =>
      have hu : ((g : Int), sl.filter fun s => !(s == site)) = u := by simpa [hl] using hu
      subst hu
      exact congrArg Int.ofNat e
    · exact h.num j u hu
  · rcases List.mem_or_eq_of_mem_set hu with hu | rfl
    · exact h.small u hu
    · have h1 := h.small _ (List.mem_of_getElem? hg)
      have h2 : (sl.filter fun s => !(s == site)).length ≤ sl.length := List.length_filter_le _ _
      show (sl.filter fun s => !(s == site)).length ≤ 6
      have h1 : sl.length ≤ 6 := h1
      omega
theorem TookI.left {N : Gr} {T : List Tk} {i g : Nat} (h : TookI N T i) {sl : List Int} (hg : N[g]? = some ((g : Int), sl)) (site : Int) : TookI (N.set g ((g : Int), sl.filter fun s => !(s == site))) T (i + 1) := by
  obtain ⟨h1, h2, h3, h4, h5, h6⟩ := h.skip
  refine ⟨h1, h2, h3, fun t ht u hu hs => ?_, h5, h6⟩
  rcases List.mem_or_eq_of_mem_set hu with hu | rfl
  · exact h4 t ht u hu hs
  · exact h4 t ht ((g : Int), sl) (List.mem_of_getElem? hg) (List.mem_filter.1 hs).1
theorem TookI.take {N : Gr} {T : List Tk} {i g : Nat} (h : TookI N T i) (hN : NowP N) {sl : List Int} (hg : N[g]? = some ((g : Int), sl)) {site : Int} (hi : i < 40) (hs : site ∈ sl) (hm : mayP (g : Int) site N = true) : TookI N (T ++ [⟨g, site, i⟩]) (i + 1) := by
  obtain ⟨h1, h2, h3, h4, h5, h6⟩ := h
  have hgl := (List.getElem?_eq_some_iff.1 hg).1
  have hfew := hN.few
  have hm := may_iff.1 hm
  refine ⟨fun t ht => ?_, ?_, ?_, fun t ht u hu hsu => ?_, fun t ht => ?_, by rw [List.length_append, List.length_singleton]; omega⟩
  · rcases List.mem_append.1 ht with ht | ht
    · have := h1 t ht; omega
    · rw [List.mem_singleton.1 ht]
      show (i : Int) < ((i + 1 : Nat) : Int)
      omega
  · rw [List.pairwise_append]
    refine ⟨h2, List.pairwise_singleton _ _, fun x hx y hy => ?_⟩
    rw [List.mem_singleton.1 hy]
    exact h1 x hx
  · rw [List.pairwise_append]
    refine ⟨h3, List.pairwise_singleton _ _, fun x hx y hy he => ?_⟩
    rw [List.mem_singleton.1 hy] at he ⊢
    exact h4 x hx _ (List.mem_of_getElem? hg) (by rw [show x.site = site from he]; exact hs)
  · rcases List.mem_append.1 ht with ht | ht
    · exact h4 t ht u hu hsu
    · rw [List.mem_singleton.1 ht] at hsu ⊢
      have := hm u hu
      show (g : Int) ≤ u.1
      by_cases hlt : u.1 < (g : Int)
      · exact absurd hsu (this hlt)
      · omega
  · rcases List.mem_append.1 ht with ht | ht
    · exact h5 t ht
    · rw [List.mem_singleton.1 ht]
      exact ⟨by show (0 : Int) ≤ (g : Int); omega, by show (g : Int) < 10; omega⟩
/-- The users in a row of one's own, their sites in rows of their own. -/
structure NowM (w wr : World) (nv : Value) (N : Gr) (ss : List (Int × Value)) : Prop where
  len : ss.length = N.length
  eq : ∀ (j : Nat) (e : Int × Value) (u : Int × List Int), ss[j]? = some e → N[j]? = some u → e.1 = u.1 ∧ RowIs wr 1 e.2 u.2.length (ints u.2)
  apart : ∀ e ∈ ss, ∀ b, e.2.ownBlock = some b → w.heap.size ≤ b ∧ nv.ownBlock ≠ some b
  row : RowIs wr 2 nv ss.length (uC ss)
  own : ∀ b, nv.ownBlock = some b → w.heap.size ≤ b
  bel : Below w.heap.size w wr
theorem NowM.start (w : World) : NowM w w (.slice none 0 0) [] [] := ⟨rfl, (fun j e u h => by simp at h), (fun e h => by cases h), RowIs.nil _ _, (fun b e => by cases e), Below.refl _ _⟩
theorem NowM.below {w wr w' : World} {nv : Value} {N : Gr} {ss : List (Int × Value)} (h : NowM w wr nv N ss) (hb : Below wr.heap.size wr w') : NowM w w' nv N ss :=
  ⟨h.len, fun j e u he hu => ⟨(h.eq j e u he hu).1, (h.eq j e u he hu).2.below hb⟩, h.apart, h.row.below hb, h.own, h.bel.trans (hb.mono h.bel.size)⟩
/-- A step that touches a row that is none of theirs. -/
theorem NowM.touch {w wr w' : World} {nv tv : Value} {N : Gr} {ss : List (Int × Value)} (h : NowM w wr nv N ss) (ht : Touch (fun b => tv.ownBlock = some b) wr w') (ha : ∀ b, tv.ownBlock = some b → w.heap.size ≤ b ∧ nv.ownBlock ≠ some b ∧ ∀ e ∈ ss, e.2.ownBlock ≠ some b) : NowM w w' nv N ss :=
  ⟨h.len, fun j e u he hu => ⟨(h.eq j e u he hu).1, (h.eq j e u he hu).2.touch ht (fun b hb e' => (ha b e').2.2 e (List.mem_of_getElem? he) hb)⟩, h.apart, h.row.touch ht (fun b hb e' => (ha b e').2.1 hb), h.own, h.bel.trans (ht.below (fun b e => (ha b e).1) h.bel.size)⟩
theorem NowM.uis {w wr : World} {nv : Value} {N : Gr} {ss : List (Int × Value)} (h : NowM w wr nv N ss) : UIs wr nv N :=
  uis_row h.row h.len (fun i e u he hu => ⟨(h.eq i e u he hu).1, (h.eq i e u he hu).2.sis⟩)
theorem NowM.push {w wr : World} {nv : Value} {N : Gr} {ss : List (Int × Value)} (h : NowM w wr nv N ss) (hN : N.length ≤ 100) {x : Int} {s : Value} {sl : List Int} (hs1 : s.oneCell' = true) (hs : RowIs wr 1 s sl.length (ints sl)) (ho : ∀ b, s.ownBlock = some b → w.heap.size ≤ b ∧ nv.ownBlock ≠ some b) :
    ∃ nv' w', (Builtin.append_ #[22, 22] 22 #[nv, .slice (some ⟨wr.heap.size, 0, none⟩) 1 1]).run Try.prog (wr.alloc (.cells #[.int .i64 x, s] 32)) = .ok nv' w' ∧ NowM w w' nv' (N ++ [(x, sl)]) (ss ++ [(x, s)]) := by
  obtain ⟨nv', w', r1, r2, r3, r4⟩ := app_usrR x s hs1 22 h.row (by rw [h.len]; omega)
  refine ⟨nv', w', r1, by rw [List.length_append, List.length_append, h.len]; rfl, fun j e u he hu => ?_, fun e he b hb => ?_, r2, fun b hb => ?_, h.bel.trans (r3.below (fun b e => h.own b e) h.bel.size)⟩
  · by_cases hj : j < ss.length
    · rw [List.getElem?_append_left hj] at he
      rw [List.getElem?_append_left (by rw [← h.len]; exact hj)] at hu
      obtain ⟨e1, e2⟩ := h.eq j e u he hu
      exact ⟨e1, e2.touch r3 (fun b hb e' => (h.apart e (List.mem_of_getElem? he) b hb).2 e')⟩
    · have hj2 : j = ss.length := by
        have := (List.getElem?_eq_some_iff.1 he).1
        rw [List.length_append, List.length_singleton] at this
        omega
      subst hj2
      rw [List.getElem?_append_right (Nat.le_refl _), Nat.sub_self] at he
      rw [h.len, List.getElem?_append_right (Nat.le_refl _), Nat.sub_self] at hu
      have he : (x, s) = e := by simpa using he
      have hu : (x, sl) = u := by simpa using hu
      subst he hu
      exact ⟨rfl, hs.touch r3 (fun b hb e' => (ho b hb).2 e')⟩
  · have hk : w.heap.size ≤ b ∧ nv.ownBlock ≠ some b ∧ b < wr.heap.size := by
      rcases List.mem_append.1 he with he | he
      · obtain ⟨q1, q2⟩ := h.apart e he b hb
        obtain ⟨j, hj⟩ := List.getElem?_of_mem he
        have hj2 : j < N.length := by rw [← h.len]; exact (List.getElem?_eq_some_iff.1 hj).1
        exact ⟨q1, q2, (h.eq j e _ hj (List.getElem?_eq_getElem hj2)).2.lt b hb⟩
      · rw [List.mem_singleton.1 he] at hb
        exact ⟨(ho b hb).1, (ho b hb).2, hs.lt b hb⟩
    refine ⟨hk.1, fun e' => ?_⟩
    rcases r4 b e' with e2 | e2
    · exact hk.2.1 e2
    · omega
  · rcases r4 b hb with e | e
    · exact h.own b e
    · have := h.bel.size; omega
/-- Turns in memory. -/
def TIs (w : World) (v : Value) (l : List (Int × Int × Bool)) : Prop := ∃ A cap, v = .slice A l.length cap ∧ l.length ≤ cap ∧ cap ≤ maxLen ∧ ∀ i e, l[i]? = some e → ∃ a : Addr, A = some a ∧ a.block < w.heap.size ∧ w.cell? (a.add (i * 3)) = some (.int .i64 e.1) ∧ w.cell? ((a.add (i * 3)).add 1) = some (.int .i64 e.2.1) ∧ w.cell? ((a.add (i * 3)).add 2) = some (.bool e.2.2)
theorem TIs.below {w w' : World} {v : Value} {l : List (Int × Int × Bool)} (h : TIs w v l) (hb : Below w.heap.size w w') : TIs w' v l := by
  obtain ⟨A, cap, e, h1, h2, h3⟩ := h
  refine ⟨A, cap, e, h1, h2, fun i x hx => ?_⟩
  obtain ⟨a, q1, q2, q3, q4, q5⟩ := h3 i x hx
  exact ⟨a, q1, Nat.lt_of_lt_of_le q2 hb.size, (hb.cell (p := a.add (i * 3)) (by rw [add_block]; exact q2)).trans q3, (hb.cell (p := (a.add (i * 3)).add 1) (by rw [add_block, add_block]; exact q2)).trans q4, (hb.cell (p := (a.add (i * 3)).add 2) (by rw [add_block, add_block]; exact q2)).trans q5⟩
theorem three_new (W : World) (t : TypeId) (c0 c1 c2 : Value) : ∀ (j : Nat) (u : Value), [c0, c1, c2][j]? = some u → (W.alloc (.cells #[c0, c1, c2] t)).cell? ((⟨W.heap.size, 0, none⟩ : Addr).add j) = some u := by
  intro j u h
  rw [add0, cell_of_row _ _ _ _ _ _ (heap_alloc_new W _)]
  simpa using h
/-- A ticket is put at the end of a row of tickets. -/
theorem app_tk {w : World} {v : Value} {T : List Tk} (t : Tk) (ty : TypeId) (h : RowIs w 3 v T.length (tkC T)) (hl : T.length ≤ 100000) : ∃ v' w', (Builtin.append_ #[44, 44] ty #[v, .slice (some ⟨w.heap.size, 0, none⟩) 1 1]).run Try.prog (w.alloc (.cells #[.int .i64 t.g, .int .i64 t.site, .int .i64 t.n] 59)) = .ok v' w' ∧ RowIs w' 3 v' (T ++ [t]).length (tkC (T ++ [t])) ∧ Touch (fun k => v.ownBlock = some k) w w' ∧ (∀ k, v'.ownBlock = some k → v.ownBlock = some k ∨ w.heap.size ≤ k) := by
  have hb := below_new (w := w) (.cells #[.int .i64 t.g, .int .i64 t.site, .int .i64 t.n] 59)
  have hsrc : Src Try.prog 3 44 (.slice (some ⟨w.heap.size, 0, none⟩) 1 1) 1 [.int .i64 t.g, .int .i64 t.site, .int .i64 t.n] (w.alloc (.cells #[.int .i64 t.g, .int .i64 t.site, .int .i64 t.n] 59)) :=
    Src.ofSlice _ Try.underlying44 ⟨w.heap.size, 0, none⟩ 1 1 [.int .i64 t.g, .int .i64 t.site, .int .i64 t.n] rfl (three_new _ _ _ _ _) (fun u hu => by
      simp at hu
      rcases hu with rfl | rfl | rfl <;> rfl)
  obtain ⟨v', w', hr, h2, h3, h4⟩ := run_append_row (w.alloc (.cells #[.int .i64 t.g, .int .i64 t.site, .int .i64 t.n] 59)) 44 59 ty 44 Try.underlying44 infoTk rfl (by omega) (by omega) v T.length 1 (tkC T) _ _ (h.below hb) hsrc (by omega)
  refine ⟨v', w', hr, by rw [List.length_append, tkC_snoc]; exact h2, (Touch.of_below hb).grown h3 (fun k hk _ => hk), fun k hk => ?_⟩
  rcases h4 with e | e
  · exact .inl (e ▸ hk)
  · right
    rw [e] at hk
    have := Option.some.inj hk
    rw [asz] at this
    omega
end Go.Proofs.Ytlbhpeeggbfcpaa
