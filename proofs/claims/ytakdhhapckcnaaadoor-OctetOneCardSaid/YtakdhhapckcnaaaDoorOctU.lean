/- octet.Strs and octet.Seq; the reference functions Nat, Num, Str, Yes and Strs of layer 2: the same bytes. -/
import Derived.Test.YtakdhhapckcnaaaDoorOctT
set_option linter.unusedSimpArgs false
set_option linter.unusedVariables false
set_option linter.unnecessarySimpa false
namespace Go.Proofs.YtakdhhapckcnaaaDoor
open Go.RowKit

theorem src_own {w : World} {base : Nat} {v : Value} {l : List UInt8} (h : OwnBy w base v l) (hl : l ≠ []) : Src Tryd.prog 1 54 v l.length (bc l) w := by
  rcases h with ⟨_, h⟩ | ⟨g, cap, rfl, h⟩
  · exact absurd h hl
  · exact Src.ofSlice _ Tryd.underlying54 ⟨g, 0, none⟩ l.length cap (bc l) (by simp [bc_length]) (fun j u hu => by
      obtain ⟨b, hb, rfl⟩ := bc_at hu
      rw [add0]; exact h.holds j b hb) (bc_one l)
theorem natB_ne (n : Nat) : natB n ≠ [] := by unfold natB; simp
theorem strB_ne (s : ByteArray) : strB s ≠ [] := by unfold strB natB; simp
theorem strB_len {s : ByteArray} (hs : s.size ≤ 300) : (strB s).length ≤ 309 := by
  have := sizeB_le s.size (by omega)
  have h2 : s.data.toList.length = s.size := by simp
  unfold strB
  rw [List.length_append, natB_len, h2]; omega
def strsT (ss : List ByteArray) (k : Nat) : List UInt8 := natB ss.length ++ (ss.take k).flatMap strB
def strsB (ss : List ByteArray) : List UInt8 := natB ss.length ++ ss.flatMap strB
theorem strsT_succ {ss : List ByteArray} {k : Nat} {x : ByteArray} (hx : ss[k]? = some x) : strsT ss (k + 1) = strsT ss k ++ strB x := by
  have hlt : k < ss.length := (List.getElem?_eq_some_iff.1 hx).1
  unfold strsT
  rw [List.take_succ_eq_append_getElem hlt, List.flatMap_append, (List.getElem?_eq_some_iff.1 hx).2]
  simp
theorem flat_len {ss : List ByteArray} (h : ∀ s ∈ ss, s.size ≤ 300) : (ss.flatMap strB).length ≤ ss.length * 309 := by
  induction ss with
  | nil => simp
  | cons x r ih =>
    have := ih (fun s hs => h s (List.mem_cons_of_mem _ hs))
    have := strB_len (h x List.mem_cons_self)
    simp only [List.flatMap_cons, List.length_append, List.length_cons]
    omega
theorem strsT_len {ss : List ByteArray} (hl : ss.length ≤ 20) (h : ∀ s ∈ ss, s.size ≤ 300) (k : Nat) : (strsT ss k).length ≤ 6200 := by
  have h1 := flat_len (ss := ss.take k) (fun s hs => h s (List.mem_of_mem_take hs))
  have h2 : (ss.take k).length ≤ 20 := by rw [List.length_take]; omega
  have h3 := sizeB_le ss.length (by omega)
  unfold strsT
  rw [List.length_append, natB_len]
  have : (ss.take k).length * 309 ≤ 20 * 309 := Nat.mul_le_mul_right _ h2
  omega

/-- a function that puts a text into bytes, and one that puts a list of texts, whichever of the two it is -/
def PutsStr (f : FuncId) : Prop := ∀ (s : ByteArray), s.size ≤ 536870912 → ∀ w, Calls Tryd.prog f #[.string s] w fun e w' => ∃ v, e = .returned v ∧ OwnBy w' w.heap.size v (strB s) ∧ Below w.heap.size w w'
set_option maxRecDepth 100000 in
set_option maxHeartbeats 2000000 in
theorem ostrs_any {w : World} {v : Value} {ss : List ByteArray} (h : TxtIs w v ss) (hl : ss.length ≤ 20) (hsz : ∀ s ∈ ss, s.size ≤ 300) :
    Calls Tryd.prog 39 #[v] w fun e w' => ∃ v, e = .returned v ∧ OwnBy w' w.heap.size v (strsB ss) ∧ Below w.heap.size w w' := by
  have HN := Lib.hid (onat_any ss.length (by omega) w)
  have HSZ := Lib.hid hsz
  have HLEN := Lib.hid (strsT_len hl hsz)
  obtain ⟨A, cap, rfl⟩ : ∃ A cap, v = .slice A ss.length cap := by
    rcases h with ⟨rfl, rfl⟩ | ⟨a, cap, rfl, _⟩
    · exact ⟨_, _, rfl⟩
    · exact ⟨_, _, rfl⟩
  have h6 : ∀ i s, ss[i]? = some s → ∃ a, A = some a ∧ a.block < w.heap.size ∧ w.cell? (a.add i) = some (.string s) := by
    intro i s hi
    rcases h with ⟨_, rfl⟩ | ⟨a, cap, hv, _, _, h3, h4⟩
    · simp at hi
    · injection hv with hv; exact ⟨a, hv, h3, h4 i s hi⟩
  have H6 := Lib.hid h6
  have hls : (ss.length : Int) ≤ 20 := by omega
  have hl0 : (0 : Int) ≤ (ss.length : Int) := by omega
  clear h h6 hsz
  go_enter Tryd.func39, Tryd.ntmps39
  go_wp2_with fail
  refine (HN.out).mono ?_
  rintro e w1 ⟨v1, rfl, hO1, hB1⟩
  have HO1 := Lib.hid hO1
  have HB1 := Lib.hid hB1
  clear hO1 hB1
  go_wp2_with fail
  go_loopw [3, 12] (fun v i wr => ∃ k : Nat, k ≤ ss.length ∧ i = .int .i64 k ∧ OwnBy wr w.heap.size v (strsT ss k) ∧ Below w.heap.size w wr) (fun _ i _ => ss.length - (intOf i).toNat)
  case atStart => exact ⟨0, by omega, rfl, by simpa [strsT] using HO1.out, HB1.out⟩
  case round =>
    obtain ⟨k, hk, rfl, hown, hb⟩ := hrel
    by_cases hlt : k < ss.length
    · have hx : ss[k]? = some ss[k] := List.getElem?_eq_getElem hlt
      generalize ss[k] = x at hx
      obtain ⟨a, rfl, hal, hc⟩ := H6.out k x hx
      have c0 := (hb.cell (p := a.add k) (by rw [add_block]; exact hal)).trans hc
      have HX := Lib.hid hx
      have HB := Lib.hid hb
      have HO := Lib.hid hown
      have HS := Lib.hid (ostr_any x (by have := HSZ.out x (List.mem_of_getElem? hx); omega) wr)
      clear hx hb hown hc
      go_wp2_with fail
      refine (HS.out).mono ?_
      rintro e w2 ⟨v2, rfl, hO2, hB2⟩
      have src := Lib.hid (src_own hO2 (strB_ne x))
      have HOv := Lib.hid (HO.out.below hB2)
      have HB2 := Lib.hid (HB.out.trans (hB2.mono HB.out.size))
      have hlen : Hid ((strsT ss k).length + (strB x).length ≤ 1073741824) := by
        have h1 := HLEN.out k
        have h2 := strB_len (HSZ.out x (List.mem_of_getElem? HX.out))
        show (strsT ss k).length + (strB x).length ≤ 1073741824
        omega
      clear hO2 hB2 c0
      go_wp2_with (at_builtin; refine wpList_append_by _ rfl _ _ 54 rfl w.heap.size (strsT ss k) (strB x) _ _ rfl rfl HOv.out src.out hlen.out HB2.out.size ?_)
      intro v' w' hown hg
      have HO' := Lib.hid hown
      have HB' := Lib.hid (HB2.out.grown hg HB2.out.size HOv.out.rows)
      clear hown hg
      go_wp2
      go_roundw
      case rel => exact ⟨k + 1, by omega, by go_num, by rw [strsT_succ HX.out]; exact HO'.out, HB'.out⟩
      case measure => simp [intOf]; omega
    · obtain rfl : k = ss.length := by omega
      have HB := Lib.hid hb
      have HO := Lib.hid hown
      clear hb hown
      go_wp2
      go_ret
      refine ⟨_, rfl, ?_, HB.out⟩
      have := HO.out
      unfold strsT at this
      rw [List.take_length] at this
      exact this

/-- A slice value that reads as slices of bytes. -/
def PartsIs (w : World) (v : Value) (ls : List (List UInt8)) : Prop :=
  (v = .slice none 0 0 ∧ ls = []) ∨ ∃ b cap, v = .slice (some ⟨b, 0, none⟩) ls.length cap ∧ b < w.heap.size ∧ ls.length ≤ 1000 ∧ ∀ i l, ls[i]? = some l → l ≠ [] ∧ ∃ x, w.cell? ⟨b, i, none⟩ = some x ∧ OwnBy w 0 x l
set_option maxRecDepth 100000 in
set_option maxHeartbeats 2000000 in
theorem oseq_any {w : World} {v : Value} {ls : List (List UInt8)} (h : PartsIs w v ls) (hl : ls.flatten.length ≤ 536870912) :
    Calls Tryd.prog 34 #[v] w fun e w' => ∃ v, e = .returned v ∧ OwnBy w' w.heap.size v ls.flatten ∧ Below w.heap.size w w' := by
  rcases h with ⟨rfl, rfl⟩ | ⟨b, cap, rfl, hbl, hn, h6⟩
  · go_enter Tryd.func34, Tryd.ntmps34
    go_wp2
    refine wp_loop_rounds 1 ?_
    rw [rounds_succ]
    go_wp2
    go_ret
    exact ⟨_, rfl, .inl ⟨rfl, rfl⟩, Below.refl _ _⟩
  · have H6 := Lib.hid h6
    have HL := Lib.hid hl
    clear h6 hl
    go_enter Tryd.func34, Tryd.ntmps34
    go_wp2_with fail
    go_loopw [3, 8] (fun v i wr => ∃ k : Nat, k ≤ ls.length ∧ i = .int .i64 k ∧ OwnBy wr w.heap.size v (ls.take k).flatten ∧ Below w.heap.size w wr) (fun _ i _ => ls.length - (intOf i).toNat)
    case atStart => exact ⟨0, by omega, rfl, .inl ⟨rfl, by simp⟩, Below.refl _ _⟩
    case round =>
      obtain ⟨k, hk, rfl, hown, hb⟩ := hrel
      by_cases hlt : k < ls.length
      · have hx : ls[k]? = some ls[k] := List.getElem?_eq_getElem hlt
        generalize hll : ls[k] = l at hx
        obtain ⟨hne, x, hc, hox⟩ := H6.out k l hx
        have c0 := (hb.cell (p := ⟨b, k, none⟩) hbl).trans hc
        have src := Lib.hid (src_own (hox.below hb) hne)
        have HX : Hid ((ls.take (k + 1)).flatten = (ls.take k).flatten ++ l) := by
          show (ls.take (k + 1)).flatten = (ls.take k).flatten ++ l
          rw [List.take_succ_eq_append_getElem hlt, hll, List.flatten_append]; simp
        have hlen : Hid ((ls.take k).flatten.length + l.length ≤ 1073741824) := by
          have h1 : (ls.take (k + 1)).flatten.length ≤ ls.flatten.length := by
            have : ls.flatten = (ls.take (k + 1)).flatten ++ (ls.drop (k + 1)).flatten := by rw [← List.flatten_append, List.take_append_drop]
            rw [this, List.length_append]; omega
          rw [HX.out, List.length_append] at h1
          have := HL.out
          show (ls.take k).flatten.length + l.length ≤ 1073741824
          omega
        have HB := Lib.hid hb
        have HO := Lib.hid hown
        obtain ⟨Ax, cx, rfl⟩ : ∃ Ax cx, x = .slice Ax l.length cx := by
          rcases hox with ⟨rfl, rfl⟩ | ⟨g, c, rfl, _⟩
          · exact ⟨_, _, rfl⟩
          · exact ⟨_, _, rfl⟩
        clear hx hb hown hc hox hll hne
        go_wp2_with (at_builtin; refine wpList_append_by _ rfl _ _ 54 rfl w.heap.size (ls.take k).flatten l _ _ rfl rfl HO.out src.out hlen.out HB.out.size ?_)
        intro v' w' hown hg
        have HO' := Lib.hid hown
        have HB' := Lib.hid (HB.out.grown hg HB.out.size HO.out.rows)
        clear hown hg
        go_wp2
        go_roundw
        case rel => exact ⟨k + 1, by omega, by go_num, by rw [HX.out]; exact HO'.out, HB'.out⟩
        case measure => simp [intOf]; omega
      · obtain rfl : k = ls.length := by omega
        have HB := Lib.hid hb
        have HO := Lib.hid hown
        clear hb hown
        go_wp2
        go_ret
        refine ⟨_, rfl, ?_, HB.out⟩
        have := HO.out
        rw [List.take_length] at this
        exact this
end Go.Proofs.YtakdhhapckcnaaaDoor
