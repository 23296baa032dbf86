/- The reference functions Num, Str, Yes and Strs of layer 2: the same bytes as package octet's. -/
import Derived.Test.YtakdhhapckcnaaaDoorOctV
import Derived.Lib.AtoiErrMem
set_option linter.unusedSimpArgs false
set_option linter.unusedVariables false
set_option linter.unnecessarySimpa false
namespace Go.Proofs.YtakdhhapckcnaaaDoor
open Go.RowKit

set_option maxRecDepth 100000 in
set_option maxHeartbeats 1000000 in
theorem fnum_any (m : Int) (h0 : -9223372036854775808 ≤ m) (h1 : m ≤ 9223372036854775807) (w : World) :
    Calls Tryd.prog 41 #[.int .i64 m] w fun e w' => ∃ v, e = .returned v ∧ OwnBy w' w.heap.size v (natB (numN m)) ∧ Below w.heap.size w w' := by
  have HN := Lib.hid (fnat_any (numN m) (by unfold numN; split <;> omega) w)
  by_cases hm : m < 0
  · have HE : Hid ((numN m : Int) = 2 * (-1 - m) + 1) := by show (numN m : Int) = _; unfold numN; rw [if_pos hm]; omega
    go_enter Tryd.func41, Tryd.ntmps41
    go_wp2_with fail
    rw [show (2 * (-1 - m) + 1 : Int) = (numN m : Int) from HE.out.symm]
    refine (HN.out).mono ?_
    rintro e w1 ⟨v, rfl, hO, hB⟩
    have HO := Lib.hid hO
    have HB := Lib.hid hB
    clear hO hB
    go_wp2
    go_ret
    exact ⟨_, rfl, HO.out, HB.out⟩
  · have HE : Hid ((numN m : Int) = 2 * m) := by show (numN m : Int) = _; unfold numN; rw [if_neg hm]; omega
    have hm' : 0 ≤ m := by omega
    clear hm
    go_enter Tryd.func41, Tryd.ntmps41
    go_wp2_with fail
    rw [show (2 * m : Int) = (numN m : Int) from HE.out.symm]
    refine (HN.out).mono ?_
    rintro e w1 ⟨v, rfl, hO, hB⟩
    have HO := Lib.hid hO
    have HB := Lib.hid hB
    clear hO hB
    go_wp2
    go_ret
    exact ⟨_, rfl, HO.out, HB.out⟩
theorem fyes_any (b : Bool) (w : World) : Calls Tryd.prog 43 #[.bool b] w fun e w' => ∃ v, e = .returned v ∧ OwnBy w' w.heap.size v (yesB b) ∧ Below w.heap.size w w' := by
  have H1 := Lib.hid (own_one w 1 1 rfl)
  have H0 := Lib.hid (own_one w 0 0 rfl)
  cases b
  · go_enter Tryd.func43, Tryd.ntmps43
    go_wp2
    go_ret
    exact ⟨_, rfl, H0.out, (Below.refl _ _).alloc (Nat.le_refl _) _⟩
  · go_enter Tryd.func43, Tryd.ntmps43
    go_wp2
    go_ret
    exact ⟨_, rfl, H1.out, (Below.refl _ _).alloc (Nat.le_refl _) _⟩
theorem src_bytes (w : World) (s : ByteArray) : Src Tryd.prog 1 54 (.slice (some ⟨w.heap.size, 0, none⟩) s.size (grownCap w s.size 0 5)) s.data.toList.length (bc s.data.toList) (Lib.bytesWorld w 5 s) := by
  have hl : s.data.toList.length = s.size := by simp
  have := Src.ofSlice (w := Lib.bytesWorld w 5 s) (size := 1) (P := Tryd.prog) Tryd.underlying54 ⟨w.heap.size, 0, none⟩ s.size (grownCap w s.size 0 5) (bc s.data.toList) (by rw [bc_length, hl]; omega) (fun j u hu => by
    obtain ⟨b, hb, rfl⟩ := bc_at hu
    have hj : j < s.size := by rw [← hl]; exact (List.getElem?_eq_some_iff.1 hb).1
    rw [add0, Lib.bytesWorld_cell w 5 s j hj]
    simp only [List.getD, hb]; rfl) (bc_one _)
  rw [hl]; exact this
set_option maxRecDepth 100000 in
set_option maxHeartbeats 1000000 in
theorem fstr_any (s : ByteArray) (hs : s.size ≤ 536870912) (w : World) :
    Calls Tryd.prog 42 #[.string s] w fun e w' => ∃ v, e = .returned v ∧ OwnBy w' w.heap.size v (strB s) ∧ Below w.heap.size w w' := by
  have HN := Lib.hid (fnat_any s.size (by omega) w)
  have hz : (s.size : Int) ≤ 536870912 := by omega
  have hz0 : (0 : Int) ≤ (s.size : Int) := by omega
  go_enter Tryd.func42, Tryd.ntmps42
  go_wp2_with fail
  refine (HN.out).mono ?_
  rintro e w1 ⟨v, rfl, hO, hB⟩
  have HO := Lib.hid hO
  have HB := Lib.hid hB
  clear hO hB
  go_wp2_with fail
  rw [Lib.run_convert_string_bytes (P := Tryd.prog) w1 9 54 5 s Tryd.underlying9 Tryd.underlying54 Tryd.underlying5]
  have hb2 := Lib.bytesWorld_below w1 5 s
  have src := src_bytes w1 s
  have HOv := Lib.hid (HO.out.below hb2)
  have HB2 := Lib.hid (HB.out.trans (hb2.mono HB.out.size))
  generalize Lib.bytesWorld w1 5 s = w2 at *
  generalize grownCap w1 s.size 0 5 = cap at *
  have SRC := Lib.hid src
  have hlen : (natB s.size).length + s.data.toList.length ≤ 1073741824 := by
    have := sizeB_le s.size (by omega)
    have h2 : s.data.toList.length = s.size := by simp
    rw [natB_len, h2]; omega
  have HL := Lib.hid hlen
  clear hb2 src hlen
  go_wp2_with (at_builtin; refine wpList_append_by _ rfl _ _ 54 rfl w.heap.size (natB s.size) s.data.toList _ _ rfl rfl HOv.out SRC.out HL.out HB2.out.size ?_)
  intro v' w' hown hg
  have HO' := Lib.hid hown
  have HB' := Lib.hid (HB2.out.grown hg HB2.out.size HOv.out.rows)
  clear hown hg
  go_wp2
  go_ret
  exact ⟨_, rfl, HO'.out, HB'.out⟩
set_option maxRecDepth 100000 in
set_option maxHeartbeats 2000000 in
theorem fstrs_any {w : World} {v : Value} {ss : List ByteArray} (h : TxtIs w v ss) (hl : ss.length ≤ 20) (hsz : ∀ s ∈ ss, s.size ≤ 300) :
    Calls Tryd.prog 44 #[v] w fun e w' => ∃ v, e = .returned v ∧ OwnBy w' w.heap.size v (strsB ss) ∧ Below w.heap.size w w' := by
  have HN := Lib.hid (fnat_any ss.length (by omega) w)
  have HSZ := Lib.hid hsz
  have HLEN := Lib.hid (strsT_len hl hsz)
  obtain ⟨A, cap, rfl⟩ : ∃ A cap, v = .slice A ss.length cap := by
    rcases h with ⟨rfl, rfl⟩ | ⟨a, cap, rfl, _⟩
    · exact ⟨_, _, rfl⟩
    · exact ⟨_, _, rfl⟩
  have h6 : ∀ i s, ss[i]? = some s → ∃ a, A = some a ∧ a.block < w.heap.size ∧ w.cell? (a.add i) = some (.string s) := by
    intro i s hi
    rcases h with ⟨_, rfl⟩ | ⟨a, cap, hv, _, _, h3, h4⟩
    · simp at hi
    · injection hv with hv; exact ⟨a, hv, h3, h4 i s hi⟩
  have H6 := Lib.hid h6
  have hls : (ss.length : Int) ≤ 20 := by omega
  have hl0 : (0 : Int) ≤ (ss.length : Int) := by omega
  clear h h6 hsz
  go_enter Tryd.func44, Tryd.ntmps44
  go_wp2_with fail
  refine (HN.out).mono ?_
  rintro e w1 ⟨v1, rfl, hO1, hB1⟩
  have HO1 := Lib.hid hO1
  have HB1 := Lib.hid hB1
  clear hO1 hB1
  go_wp2_with fail
  go_loopw [3, 12] (fun v i wr => ∃ k : Nat, k ≤ ss.length ∧ i = .int .i64 k ∧ OwnBy wr w.heap.size v (strsT ss k) ∧ Below w.heap.size w wr) (fun _ i _ => ss.length - (intOf i).toNat)
  case atStart => exact ⟨0, by omega, rfl, by simpa [strsT] using HO1.out, HB1.out⟩
  case round =>
    obtain ⟨k, hk, rfl, hown, hb⟩ := hrel
    by_cases hlt : k < ss.length
    · have hx : ss[k]? = some ss[k] := List.getElem?_eq_getElem hlt
      generalize ss[k] = x at hx
      obtain ⟨a, rfl, hal, hc⟩ := H6.out k x hx
      have c0 := (hb.cell (p := a.add k) (by rw [add_block]; exact hal)).trans hc
      have HX := Lib.hid hx
      have HB := Lib.hid hb
      have HO := Lib.hid hown
      have HS := Lib.hid (fstr_any x (by have := HSZ.out x (List.mem_of_getElem? hx); omega) wr)
      clear hx hb hown hc
      go_wp2_with fail
      refine (HS.out).mono ?_
      rintro e w2 ⟨v2, rfl, hO2, hB2⟩
      have src := Lib.hid (src_own hO2 (strB_ne x))
      have HOv := Lib.hid (HO.out.below hB2)
      have HB2 := Lib.hid (HB.out.trans (hB2.mono HB.out.size))
      have hlen : Hid ((strsT ss k).length + (strB x).length ≤ 1073741824) := by
        have h1 := HLEN.out k
        have h2 := strB_len (HSZ.out x (List.mem_of_getElem? HX.out))
        show (strsT ss k).length + (strB x).length ≤ 1073741824
        omega
      clear hO2 hB2 c0
      go_wp2_with (at_builtin; refine wpList_append_by _ rfl _ _ 54 rfl w.heap.size (strsT ss k) (strB x) _ _ rfl rfl HOv.out src.out hlen.out HB2.out.size ?_)
      intro v' w' hown hg
      have HO' := Lib.hid hown
      have HB' := Lib.hid (HB2.out.grown hg HB2.out.size HOv.out.rows)
      clear hown hg
      go_wp2
      go_roundw
      case rel => exact ⟨k + 1, by omega, by go_num, by rw [strsT_succ HX.out]; exact HO'.out, HB'.out⟩
      case measure => simp [intOf]; omega
    · obtain rfl : k = ss.length := by omega
      have HB := Lib.hid hb
      have HO := Lib.hid hown
      clear hb hown
      go_wp2
      go_ret
      refine ⟨_, rfl, ?_, HB.out⟩
      have := HO.out
      unfold strsT at this
      rw [List.take_length] at this
      exact this

end Go.Proofs.YtakdhhapckcnaaaDoor
