/- slices.Insert at the end. -/
import Derived.Test.YtmaokoekbjjgfaaDoorZChaJ
import Derived.Test.YtmaokoekbjjgfaaDoorZChaK
set_option linter.unusedSimpArgs false
set_option linter.unusedVariables false
set_option linter.unnecessarySimpa false
namespace Go.Proofs.YtmaokoekbjjgfaaDoor
open Go.RowKit Go.Shelf

theorem src_ver {W : World} {b : Nat} {x : Ver} (h : W.heap[b]? = some (.cells #[.int .i64 x.at_, .int .i64 x.n, .bool x.there, .int .i64 x.read, .bool x.opn] 47 (0, 0))) : Src Tryd.prog 5 48 (.slice (some ⟨b, 0, none⟩) 1 1) 1 (verV x) W := by
  refine Src.ofSlice _ Tryd.underlying48 ⟨b, 0, none⟩ 1 1 _ rfl (fun j u hu => ?_) (by simp [Value.oneCell', verV])
  rw [add0, cell_of h j]
  simpa [verV] using hu
set_option maxRecDepth 100000 in
set_option maxHeartbeats 1000000 in
theorem insert_end {W : World} {L : List Ver} {g cap b : Nat} {x : Ver} (h : RowIs W 5 (.slice (some ⟨g, 0, none⟩) L.length cap) L.length (verC L)) (hl : L.length ≤ 1000000) (h0 : 0 < L.length) (hx : W.heap[b]? = some (.cells #[.int .i64 x.at_, .int .i64 x.n, .bool x.there, .int .i64 x.read, .bool x.opn] 47 (0, 0))) :
    Calls Tryd.prog 44 #[.slice (some ⟨g, 0, none⟩) L.length cap, .int .i64 L.length, .slice (some ⟨b, 0, none⟩) 1 1] W fun e w' => ∃ v', e = .returned v' ∧ RowIs w' 5 v' (L.length + 1) (verC (L ++ [x])) ∧ W.grownBy w' (some g) ∧ (v'.ownBlock = some g ∨ v'.ownBlock = some W.heap.size) := by
  obtain ⟨A, cap', e1, hc1, hc2, _⟩ := h.form
  injection e1 with e1 _ e3
  subst e1 e3
  unfold maxLen at hc2
  have hlI : (L.length : Int) ≤ 1000000 := by omega
  have hcI : (L.length : Int) ≤ cap := by omega
  have HROW := Lib.hid h
  have HSRC := Lib.hid (src_ver hx)
  have hle : 0 + L.length * 5 ≤ cap * 5 := by omega
  clear h hx
  go_enter Tryd.func44, Tryd.ntmps44
  go_wp2_with (at_builtin; refine wpList_append_row _ _ Tryd.underlying48 infoV rfl (by decide) (by decide) _ rfl _ _ 48 rfl L.length 1 (verC L) (verV x) _ _ rfl rfl HROW.out HSRC.out ?_ ?_)
  all_goals first | omega | skip
  all_goals
    intro v' w' hrow hgrow hblk
    have HR := Lib.hid hrow
    have HG := Lib.hid hgrow
    have HBK := Lib.hid hblk
    clear hrow hgrow hblk
    go_wp2_with fail
    go_ret
    refine ⟨v', rfl, ?_, HG.out, HBK.out⟩
    rw [verC_snoc]
    exact HR.out
end Go.Proofs.YtmaokoekbjjgfaaDoor
