/- some. -/
import Derived.Test.YtoidfkcecggjfaaDoorZValJ
set_option linter.unusedSimpArgs false
set_option linter.unusedVariables false
set_option linter.unnecessarySimpa false
namespace Go.Proofs.YtoidfkcecggjfaaDoor
open Go.RowKit Go.Shelf

/-- A slice of texts that was given. -/
def TxtIs (w : World) (v : Value) (L : List K) : Prop := ∃ A cap, v = .slice A L.length cap ∧ L.length ≤ cap ∧ cap ≤ maxLen ∧ ∀ i s, L[i]? = some s → s.length ≤ maxLen ∧ ∃ a : Addr, A = some a ∧ a.block < w.heap.size ∧ w.cell? (a.add i) = some (encStr s)
theorem TxtIs.below {w w' : World} {v : Value} {L : List K} (h : TxtIs w v L) (hb : Below w.heap.size w w') : TxtIs w' v L := by
  obtain ⟨A, cap, rfl, h1, h2, h3⟩ := h
  refine ⟨A, cap, rfl, h1, h2, fun i s hi => ?_⟩
  obtain ⟨h4, a, rfl, hlt, hc⟩ := h3 i s hi
  have hs := hb.size
  exact ⟨h4, a, rfl, by omega, (hb.cell (p := a.add i) (by rw [add_block]; exact hlt)).trans hc⟩
def someP (L : List K) : List K := (L.take 6).map fun s => s.take 20
def takes (k : Nat) (L : List K) : List K := (L.take k).map fun s => s.take 20
theorem takes_snoc {L : List K} {i : Nat} {s : K} (h : L[i]? = some s) : takes (i + 1) L = takes i L ++ [s.take 20] := by
  unfold takes
  rw [List.take_add_one, h]
  simp
theorem some_all {L : List K} {k : Nat} (h : k = 6 ∨ k = L.length ∧ k ≤ 6) : takes k L = someP L := by
  unfold takes someP
  rcases h with rfl | ⟨rfl, h⟩
  · rfl
  · rw [List.take_of_length_le (Nat.le_refl _), List.take_of_length_le h]
theorem cut_long {s : K} (h : 20 < s.length) : (ByteArray.extract ⟨s.toArray⟩ 0 20).data.toList = s.take 20 := by
  simp [ByteArray.data_extract]
theorem takes_len (L : List K) (k : Nat) (h : k ≤ 6) : (takes k L).length ≤ 6 := by
  unfold takes
  rw [List.length_map, List.length_take]
  omega
theorem some_len (L : List K) : (someP L).length ≤ 6 := by
  unfold someP
  rw [List.length_map, List.length_take]
  omega
theorem infoT : (Tryd.prog.info? 9).map (fun i => (i.zero, i.size, i.bytes)) = some (some (.string ⟨#[]⟩), 1, 16) := by kernel_rfl
theorem app_text {w : World} {v : Value} {l : List K} (s : ByteArray) (ty : TypeId) (h : RowIs w 1 v l.length (strs l)) (hl : l.length ≤ 1000000) : ∃ v' w', (Builtin.append_ #[29, 29] ty #[v, .slice (some ⟨w.heap.size, 0, none⟩) 1 1]).run Tryd.prog (w.alloc (.cells #[.string s] 9)) = .ok v' w' ∧ RowIs w' 1 v' (l ++ [s.data.toList]).length (strs (l ++ [s.data.toList])) ∧ Touch (fun k => v.ownBlock = some k) w w' ∧ (∀ k, v'.ownBlock = some k → v.ownBlock = some k ∨ w.heap.size ≤ k) := by
  have hb := below_new (w := w) (.cells #[.string s] 9)
  have hsrc : Src Tryd.prog 1 29 (.slice (some ⟨w.heap.size, 0, none⟩) 1 1) 1 [.string s] (w.alloc (.cells #[.string s] 9)) :=
    Src.ofSlice _ Tryd.underlying29 ⟨w.heap.size, 0, none⟩ 1 1 [.string s] rfl (fun j u hu => by
      rw [add0, cell_of (alloc_at w _)]
      simpa using hu) (by simp [Value.oneCell'])
  obtain ⟨v', w', hr, h2, h3, h4⟩ := run_append_row (w.alloc (.cells #[.string s] 9)) 29 9 ty 29 Tryd.underlying29 infoT rfl (by omega) (by omega) v l.length 1 (strs l) [.string s] _ (h.below hb) hsrc (by omega)
  refine ⟨v', w', hr, by rw [List.length_append, strs_app]; exact h2, (Touch.of_below hb).grown h3 (fun k hk _ => hk), fun k hk => ?_⟩
  rcases h4 with e | e
  · exact .inl (e ▸ hk)
  · right
    rw [e] at hk
    have := Option.some.inj hk
    rw [asz] at this
    omega
set_option maxRecDepth 100000 in
set_option maxHeartbeats 2000000 in
theorem some_any {w : World} {v : Value} {L : List K} (h : TxtIs w v L) : Calls Tryd.prog 13 #[v] w fun e w' => ∃ v', e = .returned v' ∧ RowIs w' 1 v' (someP L).length (strs (someP L)) ∧ (∀ b, v'.ownBlock = some b → w.heap.size ≤ b) ∧ Below w.heap.size w w' := by
  obtain ⟨A, cap, rfl, h1, h2, h3⟩ := h
  have H3 := Lib.hid h3
  unfold maxLen at h2
  clear h3
  go_enter Tryd.func13, Tryd.ntmps13
  go_wp2_with fail
  go_loopw [3, 8] (fun ov iv wr => ∃ k : Nat, k ≤ L.length ∧ k ≤ 6 ∧ iv = .int .i64 k ∧ RowIs wr 1 ov (takes k L).length (strs (takes k L)) ∧ (∀ b, ov.ownBlock = some b → w.heap.size ≤ b) ∧ Below w.heap.size w wr) (fun _ iv _ => L.length - (intOf iv).toNat)
  case atStart => exact ⟨0, Nat.zero_le _, Nat.zero_le _, rfl, RowIs.nil _ _, (fun b e => by cases e), Below.refl _ _⟩
  case round =>
    obtain ⟨k, hk, hk6, rfl, hr, ho, hb⟩ := hrel
    have HR := Lib.hid hr
    have HO := Lib.hid ho
    have HB := Lib.hid hb
    by_cases hlt : k < L.length
    · have hx : L[k]? = some L[k] := List.getElem?_eq_getElem hlt
      generalize L[k] = s at hx
      obtain ⟨hsm, a, rfl, ha, k0⟩ := H3.out k s hx
      have hi : (k : Int) < (L.length : Int) := by omega
      replace k0 : wr.cell? (a.add k) = some (.string ⟨s.toArray⟩) := (hb.cell (p := a.add k) (by rw [add_block]; exact ha)).trans k0
      by_cases h6 : k < 6
      · have l6 : ¬ (6 : Int) ≤ (k : Int) := by omega
        by_cases h20 : 20 < s.length
        · have l20 : (20 : Int) < (s.length : Int) := by omega
          have hlen : (takes k L).length ≤ 1000000 := by have := takes_len L k hk6; omega
          obtain ⟨v1, w1, hr1, hrow1, ht1, ho1⟩ := app_text (ByteArray.extract ⟨s.toArray⟩ 0 20) 29 hr hlen
          have HROW : Hid (RowIs w1 1 v1 (takes (k + 1) L).length (strs (takes (k + 1) L))) := Lib.hid (by
            rw [takes_snoc hx, ← cut_long h20]
            exact hrow1)
          have HO1 : Hid (∀ b, v1.ownBlock = some b → w.heap.size ≤ b) := Lib.hid (fun b e => (ho1 b e).elim (fun e => ho b e) (fun e => by have := hb.size; omega))
          have HB1 : Hid (Below w.heap.size w w1) := Lib.hid (hb.trans (ht1.below (fun b e => ho b e) hb.size))
          have HLT : Hid (k < L.length ∧ k < 6) := Lib.hid ⟨hlt, h6⟩
          clear hr ho hb hlen hrow1 ht1 ho1 hx hsm HR HO HB hlt h6 hk hk6
          go_wp2_with (at_builtin; refine wpList_app_run rfl _ _ _ _ rfl rfl rfl hr1 ?_)
          go_roundw
          case rel => exact ⟨k + 1, HLT.out.1, HLT.out.2, by go_num, HROW.out, HO1.out, HB1.out⟩
          case measure => have := HLT.out; simp [intOf]; omega
        · have l20 : ¬ (20 : Int) < (s.length : Int) := by omega
          have hlen : (takes k L).length ≤ 1000000 := by have := takes_len L k hk6; omega
          obtain ⟨v1, w1, hr1, hrow1, ht1, ho1⟩ := app_text (⟨s.toArray⟩) 29 hr hlen
          have HROW : Hid (RowIs w1 1 v1 (takes (k + 1) L).length (strs (takes (k + 1) L))) := Lib.hid (by
            rw [takes_snoc hx, List.take_of_length_le (by omega : s.length ≤ 20)]
            exact hrow1)
          have HO1 : Hid (∀ b, v1.ownBlock = some b → w.heap.size ≤ b) := Lib.hid (fun b e => (ho1 b e).elim (fun e => ho b e) (fun e => by have := hb.size; omega))
          have HB1 : Hid (Below w.heap.size w w1) := Lib.hid (hb.trans (ht1.below (fun b e => ho b e) hb.size))
          have HLT : Hid (k < L.length ∧ k < 6) := Lib.hid ⟨hlt, h6⟩
          clear hr ho hb hlen hrow1 ht1 ho1 hx hsm HR HO HB hlt h6 hk hk6
          go_wp2_with (at_builtin; refine wpList_app_run rfl _ _ _ _ rfl rfl rfl hr1 ?_)
          go_roundw
          case rel => exact ⟨k + 1, HLT.out.1, HLT.out.2, by go_num, HROW.out, HO1.out, HB1.out⟩
          case measure => have := HLT.out; simp [intOf]; omega
      · have l6 : (6 : Int) ≤ (k : Int) := by omega
        have HK : Hid (k = 6) := Lib.hid (by omega)
        clear hr ho hb h6
        go_wp2_with fail
        go_ret
        refine ⟨_, rfl, ?_, HO.out, HB.out⟩
        rw [← some_all (L := L) (.inl HK.out)]
        exact HR.out
    · obtain rfl : k = L.length := by omega
      clear hr ho hb hlt
      go_wp2_with fail
      go_ret
      refine ⟨_, rfl, ?_, HO.out, HB.out⟩
      rw [← some_all (L := L) (.inr ⟨rfl, hk6⟩)]
      exact HR.out
end Go.Proofs.YtoidfkcecggjfaaDoor
