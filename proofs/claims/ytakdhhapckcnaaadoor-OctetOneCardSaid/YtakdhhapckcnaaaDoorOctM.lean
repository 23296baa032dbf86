/- octet.Strs of many texts. -/
import Derived.Test.YtakdhhapckcnaaaDoorOctL
set_option linter.unusedSimpArgs false
set_option linter.unusedVariables false
set_option linter.unnecessarySimpa false
namespace Go.Proofs.YtakdhhapckcnaaaDoor
open Go.RowKit

theorem size_len (x : ByteArray) : x.data.toList.length = x.size := by simp
theorem strsT_le {ss : List ByteArray} {L : Nat} (h : (strsB ss).length ≤ L) (k : Nat) : (strsT ss k).length ≤ L := by
  have e : ss = ss.take k ++ ss.drop k := (List.take_append_drop k ss).symm
  have : ss.flatMap strB = (ss.take k).flatMap strB ++ (ss.drop k).flatMap strB := by rw [← List.flatMap_append, ← e]
  unfold strsB at h
  unfold strsT
  rw [this] at h
  simp only [List.length_append] at h ⊢
  omega
set_option maxRecDepth 100000 in
set_option maxHeartbeats 2000000 in
theorem ostrs_big {w : World} {v : Value} {ss : List ByteArray} (h : TxtIs w v ss) (hl : ss.length ≤ 1000) (hbig : (strsB ss).length ≤ 1000000) :
    Calls Tryd.prog 39 #[v] w fun e w' => ∃ v, e = .returned v ∧ OwnBy w' w.heap.size v (strsB ss) ∧ Below w.heap.size w w' := by
  have HN := Lib.hid (onat_any ss.length (by omega) w)
  have HLEN := Lib.hid (strsT_le hbig)
  obtain ⟨A, cap, rfl⟩ : ∃ A cap, v = .slice A ss.length cap := by
    rcases h with ⟨rfl, rfl⟩ | ⟨a, cap, rfl, _⟩
    · exact ⟨_, _, rfl⟩
    · exact ⟨_, _, rfl⟩
  have h6 : ∀ i s, ss[i]? = some s → ∃ a, A = some a ∧ a.block < w.heap.size ∧ w.cell? (a.add i) = some (.string s) := by
    intro i s hi
    rcases h with ⟨_, rfl⟩ | ⟨a, cap, hv, _, _, h3, h4⟩
    · simp at hi
    · injection hv with hv; exact ⟨a, hv, h3, h4 i s hi⟩
  have H6 := Lib.hid h6
  have hls : (ss.length : Int) ≤ 1000 := by omega
  have hl0 : (0 : Int) ≤ (ss.length : Int) := by omega
  clear h h6 hbig
  go_enter Tryd.func39, Tryd.ntmps39
  go_wp2_with fail
  refine (HN.out).mono ?_
  rintro e w1 ⟨v1, rfl, hO1, hB1⟩
  have HO1 := Lib.hid hO1
  have HB1 := Lib.hid hB1
  clear hO1 hB1
  go_wp2_with fail
  go_loopw [3, 12] (fun v i wr => ∃ k : Nat, k ≤ ss.length ∧ i = .int .i64 k ∧ OwnBy wr w.heap.size v (strsT ss k) ∧ Below w.heap.size w wr) (fun _ i _ => ss.length - (intOf i).toNat)
  case atStart => exact ⟨0, by omega, rfl, by simpa [strsT] using HO1.out, HB1.out⟩
  case round =>
    obtain ⟨k, hk, rfl, hown, hb⟩ := hrel
    by_cases hlt : k < ss.length
    · have hx : ss[k]? = some ss[k] := List.getElem?_eq_getElem hlt
      generalize ss[k] = x at hx
      obtain ⟨a, rfl, hal, hc⟩ := H6.out k x hx
      have c0 := (hb.cell (p := a.add k) (by rw [add_block]; exact hal)).trans hc
      have HX := Lib.hid hx
      have HB := Lib.hid hb
      have HO := Lib.hid hown
      have HS := Lib.hid (ostr_any x (by have := HLEN.out (k + 1); rw [strsT_succ hx, List.length_append] at this; unfold strB at this; rw [List.length_append, size_len] at this; omega) wr)
      clear hx hb hown hc
      go_wp2_with fail
      refine (HS.out).mono ?_
      rintro e w2 ⟨v2, rfl, hO2, hB2⟩
      have src := Lib.hid (src_own hO2 (strB_ne x))
      have HOv := Lib.hid (HO.out.below hB2)
      have HB2 := Lib.hid (HB.out.trans (hB2.mono HB.out.size))
      have hlen : Hid ((strsT ss k).length + (strB x).length ≤ 1073741824) := by
        have h1 := HLEN.out (k + 1)
        rw [strsT_succ HX.out, List.length_append] at h1
        show (strsT ss k).length + (strB x).length ≤ 1073741824
        omega
      clear hO2 hB2 c0
      go_wp2_with (at_builtin; refine wpList_append_by _ rfl _ _ 54 rfl w.heap.size (strsT ss k) (strB x) _ _ rfl rfl HOv.out src.out hlen.out HB2.out.size ?_)
      intro v' w' hown hg
      have HO' := Lib.hid hown
      have HB' := Lib.hid (HB2.out.grown hg HB2.out.size HOv.out.rows)
      clear hown hg
      go_wp2
      go_roundw
      case rel => exact ⟨k + 1, by omega, by go_num, by rw [strsT_succ HX.out]; exact HO'.out, HB'.out⟩
      case measure => simp [intOf]; omega
    · obtain rfl : k = ss.length := by omega
      have HB := Lib.hid hb
      have HO := Lib.hid hown
      clear hb hown
      go_wp2
      go_ret
      refine ⟨_, rfl, ?_, HB.out⟩
      have := HO.out
      unfold strsT at this
      rw [List.take_length] at this
      exact this

end Go.Proofs.YtakdhhapckcnaaaDoor
