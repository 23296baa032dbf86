/- order: the law's tickets, cut. -/
import Derived.Test.YtlbhpeeggbfcpaaZOcA
set_option linter.unusedSimpArgs false
set_option linter.unusedVariables false
set_option linter.unnecessarySimpa false
namespace Go.Proofs.Ytlbhpeeggbfcpaa
open Go.RowKit

/-- Tickets in memory, wherever they lie. -/
def KIs (w : World) (v : Value) (l : List Tk) : Prop := ∃ A cap, v = .slice A l.length cap ∧ l.length ≤ cap ∧ cap ≤ maxLen ∧ ∀ i e, l[i]? = some e → ∃ a : Addr, A = some a ∧ a.block < w.heap.size ∧ w.cell? (a.add (i * 3)) = some (.int .i64 e.g) ∧ w.cell? ((a.add (i * 3)).add 1) = some (.int .i64 e.site) ∧ w.cell? ((a.add (i * 3)).add 2) = some (.int .i64 e.n)
theorem KIs.below {w w' : World} {v : Value} {l : List Tk} (h : KIs w v l) (hb : Below w.heap.size w w') : KIs w' v l := by
  obtain ⟨A, cap, e, h1, h2, h3⟩ := h
  refine ⟨A, cap, e, h1, h2, fun i x hx => ?_⟩
  obtain ⟨a, q1, q2, q3, q4, q5⟩ := h3 i x hx
  exact ⟨a, q1, Nat.lt_of_lt_of_le q2 hb.size, (hb.cell (p := a.add (i * 3)) (by rw [add_block]; exact q2)).trans q3, (hb.cell (p := (a.add (i * 3)).add 1) (by rw [add_block, add_block]; exact q2)).trans q4, (hb.cell (p := (a.add (i * 3)).add 2) (by rw [add_block, add_block]; exact q2)).trans q5⟩
theorem infoTr : (Try.prog.info? 78).map (fun i => (i.zero, i.size, i.bytes)) = some (some (.agg #[.int .i64 0, .int .i64 0, .int .i64 0]), 3, 24) := by kernel_rfl
/-- A ticket is put at the end of a row of tickets. -/
theorem app_tkR {w : World} {v : Value} {T : List Tk} (t : Tk) (ty : TypeId) (h : RowIs w 3 v T.length (tkC T)) (hl : T.length ≤ 100000) : ∃ v' w', (Builtin.append_ #[43, 43] ty #[v, .slice (some ⟨w.heap.size, 0, none⟩) 1 1]).run Try.prog (w.alloc (.cells #[.int .i64 t.g, .int .i64 t.site, .int .i64 t.n] 78)) = .ok v' w' ∧ RowIs w' 3 v' (T ++ [t]).length (tkC (T ++ [t])) ∧ Touch (fun k => v.ownBlock = some k) w w' ∧ (∀ k, v'.ownBlock = some k → v.ownBlock = some k ∨ w.heap.size ≤ k) := by
  have hb := below_new (w := w) (.cells #[.int .i64 t.g, .int .i64 t.site, .int .i64 t.n] 78)
  have hsrc : Src Try.prog 3 43 (.slice (some ⟨w.heap.size, 0, none⟩) 1 1) 1 [.int .i64 t.g, .int .i64 t.site, .int .i64 t.n] (w.alloc (.cells #[.int .i64 t.g, .int .i64 t.site, .int .i64 t.n] 78)) :=
    Src.ofSlice _ Try.underlying43 ⟨w.heap.size, 0, none⟩ 1 1 [.int .i64 t.g, .int .i64 t.site, .int .i64 t.n] rfl (three_new _ _ _ _ _) (fun u hu => by
      simp at hu
      rcases hu with rfl | rfl | rfl <;> rfl)
  obtain ⟨v', w', hr, h2, h3, h4⟩ := run_append_row (w.alloc (.cells #[.int .i64 t.g, .int .i64 t.site, .int .i64 t.n] 78)) 43 78 ty 43 Try.underlying43 infoTr rfl (by omega) (by omega) v T.length 1 (tkC T) _ _ (h.below hb) hsrc (by omega)
  refine ⟨v', w', hr, by rw [List.length_append, tkC_snoc]; exact h2, (Touch.of_below hb).grown h3 (fun k hk _ => hk), fun k hk => ?_⟩
  rcases h4 with e | e
  · exact .inl (e ▸ hk)
  · right
    rw [e] at hk
    have := Option.some.inj hk
    rw [asz] at this
    omega
set_option maxRecDepth 100000 in
set_option maxHeartbeats 4000000 in
theorem tickets_any {w : World} {v : Value} {T : List Tk} (h : KIs w v T) : Calls Try.prog 14 #[v] w fun e w' => ∃ va vb, e = .returned (.tuple #[va, vb]) ∧ RowIs w' 3 va (T.take 16).length (tkC (T.take 16)) ∧ RowIs w' 3 vb (T.take 16).length (tkC (T.take 16)) ∧ Below w.heap.size w w' := by
  obtain ⟨A, cap, rfl, h1, h2, _⟩ := id h
  unfold maxLen at h2
  have HH := Lib.hid h
  clear h
  obtain ⟨S, hS⟩ : ∃ S, T.take 16 = S := ⟨_, rfl⟩
  rw [hS]
  have HS := Lib.hid hS
  clear hS
  go_enter Try.func14, Try.ntmps14
  go_wp2_with fail
  go_loopw [4, 5, 10] (fun av bv iv wr => ∃ k : Nat, k ≤ T.length ∧ k ≤ 16 ∧ iv = .int .i64 k ∧ RowIs wr 3 av (T.take k).length (tkC (T.take k)) ∧ RowIs wr 3 bv (T.take k).length (tkC (T.take k)) ∧ (∀ b, av.ownBlock = some b → w.heap.size ≤ b ∧ bv.ownBlock ≠ some b) ∧ (∀ b, bv.ownBlock = some b → w.heap.size ≤ b) ∧ Below w.heap.size w wr) (fun _ _ iv _ => T.length - (intOf iv).toNat)
  case atStart => exact ⟨0, Nat.zero_le _, Nat.zero_le _, rfl, RowIs.nil _ _, RowIs.nil _ _, (fun b e => by cases e), (fun b e => by cases e), Below.refl _ _⟩
  case round =>
    obtain ⟨k, hk, hk16, rfl, ra, rb, oa, ob, hb⟩ := hrel
    by_cases hlt : k < T.length
    · have hx : T[k]? = some T[k] := List.getElem?_eq_getElem hlt
      generalize T[k] = x at hx
      obtain ⟨_, _, e', _, _, h4⟩ := HH.out.below hb
      injection e' with e1 _ e3
      subst e1 e3
      obtain ⟨a, rfl, ha, k0', k1', k2'⟩ := h4 k x hx
      have k0 : wr.cell? (a.add (k * 3)) = some (.int .i64 x.g) := k0'
      have k1 : wr.cell? ⟨(a.add (k * 3)).block, (a.add (k * 3)).off + 1, none⟩ = some (.int .i64 x.site) := k1'
      have k2 : wr.cell? ⟨(a.add (k * 3)).block, (a.add (k * 3)).off + 2, none⟩ = some (.int .i64 x.n) := k2'
      clear h4 k0' k1' k2'
      have hi : (k : Int) < (T.length : Int) := by omega
      have hbn := below_new (w := wr) (.cells #[.int .i64 x.g, .int .i64 x.site, .int .i64 x.n] 78)
      have hat := alloc_at wr (.cells #[.int .i64 x.g, .int .i64 x.site, .int .i64 x.n] 78)
      have hzz := asz wr (.cells #[.int .i64 x.g, .int .i64 x.site, .int .i64 x.n] 78)
      have htk := tk_take hx
      have hlen : (T.take k).length ≤ 16 := by rw [List.length_take]; omega
      by_cases h16 : 16 ≤ k
      · have hge : (16 : Int) ≤ (k : Int) := by omega
        obtain rfl : k = 16 := by omega
        rw [HS.out] at ra rb
        have HF := Lib.hid (And.intro (ra.below hbn) (And.intro (rb.below hbn) (hb.trans (hbn.mono hb.size))))
        obtain ⟨K, hK⟩ : ∃ K : Nat, K = 16 := ⟨_, rfl⟩
        rw [← hK] at k0 k1 k2 hge hi
        rw [show ((16 : Nat) : Int) = (K : Int) by rw [hK]]
        clear ra rb oa ob hb hlt hk hk16 hx hbn hat hzz htk hlen h16 hK
        go_wp2_with fail
        refine bodyPost_ret (v := .tuple #[u4, u5]) (by simp [results, Try.results14, go_sem]) rfl ⟨_, _, rfl, HF.out⟩
      · have hge : ¬ ((16 : Int) ≤ (k : Int)) := by omega
        obtain ⟨av', w2, r1, r2, r3, r4⟩ := app_tk x 44 (ra.below hbn) (by omega)
        have hbv := (rb.below hbn).touch r3 (fun b hb' e => (oa b e).2 hb')
        obtain ⟨bv', w4, q1, q2, q3, q4⟩ := app_tkR x 43 hbv (by omega)
        have hat2 := (r3.block wr.heap.size (by omega) (fun e => by have := ra.lt _ e; omega)).trans hat
        have g0 := cell_of hat2 0
        have g1 := cell_of hat2 1
        have g2 := cell_of hat2 2
        simp at g0 g1 g2
        have HF : Hid (RowIs w4 3 av' (T.take (k + 1)).length (tkC (T.take (k + 1))) ∧ RowIs w4 3 bv' (T.take (k + 1)).length (tkC (T.take (k + 1))) ∧ (∀ b, av'.ownBlock = some b → w.heap.size ≤ b ∧ bv'.ownBlock ≠ some b) ∧ (∀ b, bv'.ownBlock = some b → w.heap.size ≤ b) ∧ Below w.heap.size w w4) := Lib.hid (by
          have hsz := hb.size
          rw [htk]
          refine ⟨r2.touch q3 (fun b hb' e => ?_), q2, fun b hb' => ⟨?_, fun e => ?_⟩, fun b hb' => ?_, ?_⟩
          · rcases r4 b hb' with e' | e'
            · exact (oa b e').2 e
            · have := rb.lt b e; omega
          · rcases r4 b hb' with e' | e'
            · exact (oa b e').1
            · omega
          · have hl2 := r2.lt b hb'
            rcases q4 b e with e' | e'
            · rcases r4 b hb' with e2 | e2
              · exact (oa b e2).2 e'
              · have := rb.lt b e'; omega
            · omega
          · rcases q4 b hb' with e | e
            · exact ob b e
            · have := r3.size; omega
          · exact (hb.trans (hbn.mono hb.size)).trans (((r3.mono (fun _ _ e => .inl e)).trans (S := fun b => u4.ownBlock = some b ∨ u5.ownBlock = some b) q3 (fun _ _ e => .inr e)).below (fun b e => by
              rcases e with e | e
              · exact (oa b e).1
              · exact ob b e) (by omega)))
        have HLT := Lib.hid hlt
        have HK : Hid (k + 1 ≤ 16) := Lib.hid (by omega)
        rw [hzz] at r1
        clear ra rb oa ob hb hlt hk hk16 hx hbn hat hzz htk hlen h16 r2 r3 r4 hbv q2 q3 q4 hat2
        go_wp2_with (at_builtin; first | (refine wpList_app_run rfl _ _ _ _ rfl rfl rfl r1 ?_) | (refine wpList_app_run rfl _ _ _ _ rfl rfl rfl q1 ?_))
        go_roundw
        case rel => exact ⟨k + 1, HLT.out, HK.out, by go_num, HF.out⟩
        case measure => have := HLT.out; simp [intOf]; omega
    · obtain rfl : k = T.length := by omega
      rw [List.take_length] at ra rb
      have HF : Hid (RowIs wr 3 u4 S.length (tkC S) ∧ RowIs wr 3 u5 S.length (tkC S) ∧ Below w.heap.size w wr) := Lib.hid (by rw [← HS.out, List.take_of_length_le hk16]; exact ⟨ra, rb, hb⟩)
      clear ra rb oa ob hb hlt hk hk16
      go_wp2_with fail
      refine bodyPost_ret (v := .tuple #[u4, u5]) (by simp [results, Try.results14, go_sem]) rfl ⟨_, _, rfl, HF.out⟩
end Go.Proofs.Ytlbhpeeggbfcpaa
