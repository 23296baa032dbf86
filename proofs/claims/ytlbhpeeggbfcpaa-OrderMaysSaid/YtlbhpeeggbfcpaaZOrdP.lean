/- order: the least number that none of the tickets has. -/
import Derived.Test.YtlbhpeeggbfcpaaZOrdO
set_option linter.unusedSimpArgs false
set_option linter.unusedVariables false
set_option linter.unnecessarySimpa false
namespace Go.Proofs.Ytlbhpeeggbfcpaa
open Go.RowKit

open Go.Maps (Keyed)

/-- A set of numbers, those of tickets. -/
def SetAt (w : World) (b0 g : Nat) (T : List Tk) : Prop := ∃ L clock, MapIs Try.prog 3 w g L clock ∧ b0 ≤ g ∧ (∀ e ∈ L, e.val = .agg #[]) ∧ ∀ x : Int, (∃ e ∈ L, e.key = .int .i64 x) ↔ ∃ t ∈ T, t.g = x
theorem zeroSt (W : World) : (zeroValue 98).run Try.prog W = .ok (.agg #[]) W := by kernel_rfl
theorem SetAt.below {w w' : World} {b0 g : Nat} {T : List Tk} (h : SetAt w b0 g T) (hb : Below w.heap.size w w') : SetAt w' b0 g T := by
  obtain ⟨L, c, h1, h0, hv, h2⟩ := h
  exact ⟨L, c, h1.keep (hb.block g h1.lt), h0, hv, h2⟩
theorem SetAt.put {w : World} {b0 g : Nat} {T : List Tk} {t : Tk} (h : SetAt w b0 g T) (hr : InR64 t.g) : ∃ w', (Instr.mapUpdate 97 (.map (some g)) (.int .i64 t.g) (.agg #[])).run Try.prog w = .ok () w' ∧ SetAt w' b0 g (T ++ [t]) ∧ Touch (fun k => k = g) w w' := by
  obtain ⟨L, c, h1, h0, hv, h2⟩ := h
  by_cases hx : ∃ e ∈ L, e.key = .int .i64 t.g
  · obtain ⟨e, he, hk⟩ := hx
    obtain ⟨j, hj⟩ := List.getElem?_of_mem he
    obtain ⟨r1, r2⟩ := h1.put_hit keyedI Try.underlying97 (v := .agg #[]) (keyI hr) hj hk
    refine ⟨_, r1, ⟨_, _, r2, h0, (fun f hf => by
      rcases List.mem_or_eq_of_mem_set hf with h3 | rfl
      · exact hv f h3
      · rfl), fun x => ?_⟩, (Touch.refl (fun k => k = g) w).set g _ (fun _ => rfl)⟩
    have hold : (∃ f ∈ L.set j { e with val := .agg #[] }, f.key = .int .i64 x) ↔ ∃ f ∈ L, f.key = .int .i64 x := by
      constructor
      · rintro ⟨f, hf, hfk⟩
        rcases List.mem_or_eq_of_mem_set hf with h3 | rfl
        · exact ⟨f, h3, hfk⟩
        · exact ⟨e, he, hfk⟩
      · rintro ⟨f, hf, hfk⟩
        obtain ⟨i, hi⟩ := List.getElem?_of_mem hf
        by_cases hij : j = i
        · subst hij
          rw [hj] at hi
          cases hi
          exact ⟨{ e with val := .agg #[] }, List.mem_of_getElem? (i := j) (by rw [List.getElem?_set_self (List.getElem?_eq_some_iff.1 hj).1]), hfk⟩
        · exact ⟨f, List.mem_of_getElem? (i := i) (by rw [List.getElem?_set_ne hij]; exact hi), hfk⟩
    rw [hold, h2]
    constructor
    · rintro ⟨u, hu, e1⟩; exact ⟨u, List.mem_append_left _ hu, e1⟩
    · rintro ⟨u, hu, e1⟩
      rcases List.mem_append.1 hu with h3 | h3
      · exact ⟨u, h3, e1⟩
      · rw [List.mem_singleton] at h3
        rw [← e1, h3]
        exact (h2 t.g).1 ⟨e, he, hk⟩
  · obtain ⟨r1, r2⟩ := h1.put_miss keyedI Try.underlying97 (v := .agg #[]) (keyI hr) (fun e he hk => hx ⟨e, he, hk⟩)
    refine ⟨_, r1, ⟨_, _, r2, h0, (fun f hf => by
      rcases List.mem_append.1 hf with h3 | h3
      · exact hv f h3
      · rw [List.mem_singleton.1 h3]), fun x => ?_⟩, (Touch.refl (fun k => k = g) w).set g _ (fun _ => rfl)⟩
    constructor
    · rintro ⟨f, hf, hfk⟩
      rcases List.mem_append.1 hf with h3 | h3
      · obtain ⟨u, hu, e1⟩ := (h2 x).1 ⟨f, h3, hfk⟩
        exact ⟨u, List.mem_append_left _ hu, e1⟩
      · rw [List.mem_singleton] at h3
        rw [h3] at hfk
        injection hfk with _ hfk
        exact ⟨t, by simp, hfk⟩
    · rintro ⟨u, hu, e1⟩
      rcases List.mem_append.1 hu with h3 | h3
      · obtain ⟨f, hf, hfk⟩ := (h2 x).2 ⟨u, h3, e1⟩
        exact ⟨f, List.mem_append_left _ hf, hfk⟩
      · rw [List.mem_singleton] at h3
        exact ⟨_, List.mem_append_right _ (List.mem_singleton.2 rfl), by rw [← e1, h3]⟩
theorem SetAt.look {w : World} {b0 g : Nat} {T : List Tk} (h : SetAt w b0 g T) {x : Int} (hr : InR64 x) : ∃ b, (Instr.lookup 97 (.map (some g)) (.int .i64 x) true).run Try.prog w = .ok (.tuple #[.agg #[], .bool b]) w ∧ (b = true ↔ ∃ t ∈ T, t.g = x) := by
  obtain ⟨L, c, h1, h0, hv, h2⟩ := h
  by_cases hx : ∃ e ∈ L, e.key = .int .i64 x
  · obtain ⟨e, he, hk⟩ := hx
    obtain ⟨j, hj⟩ := List.getElem?_of_mem he
    have h5 := h1.look_hit keyedI Try.underlying97 (keyI hr) hj hk true
    rw [hv e he] at h5
    exact ⟨true, h5, ⟨fun _ => (h2 x).1 ⟨e, he, hk⟩, fun _ => rfl⟩⟩
  · exact ⟨false, h1.look_miss keyedI Try.underlying97 (zeroSt w) (keyI hr) (fun e he hk => hx ⟨e, he, hk⟩) true, ⟨fun e => (by cases e), fun e => absurd ((h2 x).2 e) hx⟩⟩
theorem tk_take {T : List Tk} {k : Nat} {t : Tk} (h : T[k]? = some t) : T.take (k + 1) = T.take k ++ [t] := by rw [List.take_add_one, h]; rfl
theorem taken_few {T : List Tk} {n : Nat} (h : ∀ m : Nat, m < n → ∃ t ∈ T, t.g = (m : Int)) : n ≤ T.length := by
  have h1 := nodup_le (r := (List.range n).map fun m : Nat => (m : Int)) (m := T.map (·.g)) (by
    rw [List.Nodup, List.pairwise_map]
    exact List.nodup_range.imp (fun h e => h (by omega))) (fun y hy => by
    obtain ⟨m, hm, rfl⟩ := List.mem_map.1 hy
    obtain ⟨t, ht, e⟩ := h m (List.mem_range.1 hm)
    exact List.mem_map.2 ⟨t, ht, e⟩)
  rwa [List.length_map, List.length_range, List.length_map] at h1
set_option maxRecDepth 100000 in
set_option maxHeartbeats 2000000 in
theorem other_any {w : World} {v : Value} {T : List Tk} (h : RowIs w 3 v T.length (tkC T)) (hl : T.length ≤ 1000) (hn : ∀ t ∈ T, InR64 t.g) : Calls Try.prog 32 #[v] w fun e w' => ∃ s : Int, e = .returned (.int .i64 s) ∧ 0 ≤ s ∧ s ≤ 1000 ∧ (∀ t ∈ T, t.g ≠ s) ∧ Below w.heap.size w w' := by
  obtain ⟨A, cap, rfl, h1, h2, _⟩ := id h.form
  unfold maxLen at h2
  have hmm := @run_makeMap Try.prog
  have hlI : (T.length : Int) ≤ 1000 := by omega
  have HR := Lib.hid h
  have HN := Lib.hid hn
  have HS0 : Hid (SetAt (w.alloc (.map #[] 0)) w.heap.size w.heap.size []) := Lib.hid ⟨[], 0, MapIs.made Try.prog 3 w, Nat.le_refl _, (fun e he => by cases he), fun x => by simp⟩
  have HB0 := Lib.hid (below_new (w := w) (.map #[] 0))
  clear h hn
  go_enter Try.func32, Try.ntmps32
  go_wp2_with fail
  go_loopw [12] (fun iv wr => ∃ k : Nat, k ≤ T.length ∧ iv = .int .i64 k ∧ SetAt wr w.heap.size w.heap.size (T.take k) ∧ Below w.heap.size w wr) (fun iv _ => T.length - (intOf iv).toNat)
  case atStart => exact ⟨0, Nat.zero_le _, rfl, HS0.out, HB0.out⟩
  case round =>
    obtain ⟨k, hk, rfl, hs, hb⟩ := hrel
    by_cases hlt : k < T.length
    · have hx : T[k]? = some T[k] := List.getElem?_eq_getElem hlt
      have hr := HN.out _ (List.getElem_mem hlt)
      generalize T[k] = t at hx hr
      obtain ⟨c0, c1, c2⟩ := tkC_at hx
      obtain ⟨_, _, e', _, _, _, _, hcell⟩ := (HR.out.below hb).form
      injection e' with e1 _ e3
      subst e1 e3
      obtain ⟨g, eg, k0⟩ := hcell _ _ c0
      subst eg
      obtain ⟨g1, eg1, k1⟩ := hcell _ _ c1
      injection eg1 with eg1
      injection eg1 with eg1
      subst eg1
      obtain ⟨g2, eg2, k2⟩ := hcell _ _ c2
      injection eg2 with eg2
      injection eg2 with eg2
      subst eg2
      have hi : (k : Int) < (T.length : Int) := by omega
      have hbn := below_new (w := wr) (.cells #[.int .i64 t.g, .int .i64 t.site, .int .i64 t.n] 59)
      obtain ⟨w2, hp, hs2, ht2⟩ := (hs.below hbn).put hr
      have HF : Hid (SetAt w2 w.heap.size w.heap.size (T.take (k + 1)) ∧ Below w.heap.size w w2) := Lib.hid ⟨by rw [tk_take hx]; exact hs2, (hb.trans (hbn.mono hb.size)).trans (ht2.below (fun b e => Nat.le_of_eq e.symm) (Nat.le_trans hb.size hbn.size))⟩
      have HLT := Lib.hid hlt
      clear hs hb hk hlt hx c0 c1 c2 hcell hbn hs2 ht2 hr
      go_wp2_with (at_mapUpdate; refine wpList_put_run rfl _ _ _ _ rfl rfl rfl rfl hp ?_)
      go_roundw
      case rel => exact ⟨k + 1, HLT.out, by go_num, HF.out⟩
      case measure => have := HLT.out; simp [intOf]; omega
    · obtain rfl : k = T.length := by omega
      have HS : Hid (SetAt wr w.heap.size w.heap.size T) := Lib.hid (by have := hs; rwa [List.take_length] at this)
      have HB := Lib.hid hb
      obtain ⟨b, lk, hbi⟩ := HS.out.look (x := 0) ⟨by omega, by omega⟩
      have HBI := Lib.hid hbi
      clear hs hb hlt hk hbi
      go_wp2_with (at_lookup; refine wpList_look_run rfl _ _ _ _ rfl rfl rfl lk ?_)
      have hat := alloc_at wr (.cells #[] 98)
      have hbn := below_new (w := wr) (.cells #[] 98)
      have HS1 := Lib.hid (HS.out.below hbn)
      have HB1 := Lib.hid (HB.out.trans (hbn.mono HB.out.size))
      have HAT := Lib.hid hat
      clear hat hbn lk
      go_loopw [6, 7, 8] (fun nv pv tv wx => ∃ (n B : Nat) (b : Bool), n ≤ T.length ∧ nv = .int .i64 n ∧ pv = .pointer (some ⟨B, 0, none⟩) ∧ tv = .bool b ∧ (b = true ↔ ∃ t ∈ T, t.g = (n : Int)) ∧ (∀ m : Nat, m < n → ∃ t ∈ T, t.g = (m : Int)) ∧ wx.heap[B]? = some (.cells #[] 98 (0, 0)) ∧ SetAt wx w.heap.size w.heap.size T ∧ Below w.heap.size w wx) (fun nv _ _ _ => T.length + 1 - (intOf nv).toNat)
      case atStart => exact ⟨0, _, b, Nat.zero_le _, rfl, rfl, rfl, HBI.out, (fun m hm => by omega), HAT.out, HS1.out, HB1.out⟩
      case round =>
        obtain ⟨n, B, b, hnl, rfl, rfl, rfl, hbi, hall, hBx, hs, hb⟩ := hrel
        cases b with
        | true =>
          have hall2 : ∀ m : Nat, m < n + 1 → ∃ t ∈ T, t.g = (m : Int) := fun m hm => by
            by_cases e : m = n
            · rw [e]; exact hbi.1 rfl
            · exact hall m (by omega)
          have hn1 := taken_few hall2
          have hbn := below_new (w := wr) (.cells #[] 98)
          obtain ⟨b2, lk2, hbi2⟩ := (hs.below hbn).look (x := ((n + 1 : Nat) : Int)) ⟨by omega, by omega⟩
          have HF : Hid (n + 1 ≤ T.length ∧ (b2 = true ↔ ∃ t ∈ T, t.g = ((n + 1 : Nat) : Int)) ∧ (∀ m : Nat, m < n + 1 → ∃ t ∈ T, t.g = (m : Int)) ∧ (wr.alloc (.cells #[] 98)).heap[wr.heap.size]? = some (.cells #[] 98 (0, 0)) ∧ SetAt (wr.alloc (.cells #[] 98)) w.heap.size w.heap.size T ∧ Below w.heap.size w (wr.alloc (.cells #[] 98))) := Lib.hid ⟨hn1, hbi2, hall2, alloc_at _ _, hs.below hbn, hb.trans (hbn.mono hb.size)⟩
          have hnI : (n : Int) ≤ 1000 := by omega
          have e1 : ((n + 1 : Nat) : Int) = (n : Int) + 1 := by omega
          rw [e1] at lk2
          clear hbi hall hall2 hn1 hbn hbi2 hs hb e1 hnl
          go_wp2_with (at_lookup; refine wpList_look_run rfl _ _ _ _ rfl rfl rfl lk2 ?_)
          go_roundw
          case rel => exact ⟨n + 1, _, b2, HF.out.1, by go_num, rfl, rfl, HF.out.2.1, HF.out.2.2.1, HF.out.2.2.2⟩
          case measure => have := HF.out.1; simp [intOf]; omega
        | false =>
          have HF : Hid ((0 : Int) ≤ n ∧ (n : Int) ≤ 1000 ∧ (∀ t ∈ T, t.g ≠ (n : Int)) ∧ Below w.heap.size w wr) := Lib.hid ⟨by omega, by omega, fun t ht e => (by have := hbi.2 ⟨t, ht, e⟩; cases this), hb⟩
          clear hbi hall hs hb hnl
          go_wp2_with fail
          go_ret
          exact ⟨(n : Int), rfl, HF.out⟩
end Go.Proofs.Ytlbhpeeggbfcpaa
