/- slices.Insert of one version, anywhere. -/
import Derived.Test.YtmaokoekbjjgfaaDoorZChaY
set_option linter.unusedSimpArgs false
set_option linter.unusedVariables false
set_option linter.unnecessarySimpa false
namespace Go.Proofs.YtmaokoekbjjgfaaDoor
open Go.RowKit Go.Shelf

theorem insert_any {W : World} {L : List Ver} {g cap b i : Nat} {x : Ver} (h : RowIs W 5 (.slice (some ⟨g, 0, none⟩) L.length cap) L.length (verC L)) (hl : L.length ≤ 1000000) (h0 : 0 < L.length) (hi : i ≤ L.length) (hx : W.heap[b]? = some (.cells #[.int .i64 x.at_, .int .i64 x.n, .bool x.there, .int .i64 x.read, .bool x.opn] 47 (0, 0))) (hbg : b ≠ g) :
    Calls Tryd.prog 44 #[.slice (some ⟨g, 0, none⟩) L.length cap, .int .i64 i, .slice (some ⟨b, 0, none⟩) 1 1] W fun e w' => ∃ v', e = .returned v' ∧ RowIs w' 5 v' (L.length + 1) (verC (L.take i ++ x :: L.drop i)) ∧ W.grownBy w' (some g) ∧ (v'.ownBlock = some g ∨ v'.ownBlock = some W.heap.size) := by
  have hlen : (verC (L.take i ++ x :: L.drop i)).length = (L.length + 1) * 5 := by rw [verC_len, List.length_append, List.length_cons, List.length_take, List.length_drop, Nat.min_eq_left hi]; omega
  by_cases e : i = L.length
  · subst e
    refine (insert_end h hl h0 hx).mono ?_
    rintro e w' ⟨v', rfl, hr, hg, hv⟩
    refine ⟨v', rfl, ?_, hg, hv⟩
    rw [List.take_length, List.drop_length]
    exact hr
  · rcases h with ⟨e1, _⟩ | ⟨g', cap', e1, _, hle, hc⟩
    · cases e1
    · cases e1
      by_cases hr : L.length + 1 ≤ cap
      · refine (insert_room hc (by omega) hr hl hx hbg).mono ?_
        rintro e w' ⟨rfl, hr2, hT⟩
        exact ⟨_, rfl, .inr ⟨g, cap, rfl, hlen, hr, hr2⟩, ⟨hT.os, hT.tape, hT.output, hT.size, fun k hk hne => hT.block k hk (fun e => hne (by rw [e]))⟩, .inl rfl⟩
      · refine (insert_grow hc (by omega) (by omega) hl hx hbg).mono ?_
        rintro e w' ⟨G, hG, rfl, hr2, hB⟩
        exact ⟨_, rfl, .inr ⟨_, G, rfl, hlen, hG, hr2⟩, ⟨hB.os, hB.tape, hB.output, hB.size, fun k hk _ => hB.block k hk⟩, .inr rfl⟩
end Go.Proofs.YtmaokoekbjjgfaaDoor
