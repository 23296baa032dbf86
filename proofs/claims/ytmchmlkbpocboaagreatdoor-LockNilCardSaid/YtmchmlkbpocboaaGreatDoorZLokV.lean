/- lock: Ask, Waits. -/
import Derived.Test.YtmchmlkbpocboaaGreatDoorZLokU
set_option linter.unusedSimpArgs false
set_option linter.unusedVariables false
set_option linter.unnecessarySimpa false
namespace Go.Proofs.YtmchmlkbpocboaaGreatDoor
open Go.RowKit

theorem Glob.touch {S : Nat → Prop} {w w' : World} (h : Glob w) (ht : Touch S w w') (hS : ¬ S 0) : Glob w' :=
  (World.cell?_of_block (a := ⟨0, 0, none⟩) (ht.block _ h.lt hS)).trans h
theorem TbTo.below {w w' w'' : World} {tb gl gw : Nat} {ro : Nat → Nat} {T : Tb} (h : TbTo w tb gl gw ro T w') (hb : Below w'.heap.size w' w'') : TbTo w tb gl gw ro T w'' := by
  obtain ⟨L', WT', ro', h1, h2, h3⟩ := h
  exact ⟨L', WT', ro', h1.below hb, h2, h3.below hb⟩
def AskP (w : World) (tb gl gw : Nat) (ro : Nat → Nat) (q : Int × Tb) (e : Ending) (w' : World) : Prop := e = .returned (.int .i64 q.1) ∧ TbTo w tb gl gw ro q.2 w'
set_option maxRecDepth 100000 in
set_option maxHeartbeats 2000000 in
theorem Ask_any {w : World} {tb gl gw : Nat} {L : List Le} {WT : List Wt} {ro : Nat → Nat} (h : TbAt w tb gl gw L WT ro) (hG : Glob w) (hg : ro 0 = 0) (hf : Few 10000 L WT) (who : Int) (k : KeyT) (mine : Bool) (hw : InR64 who) (hk : k.length ≤ 1000) : Calls Tryz.prog 22 #[.pointer (some ⟨tb, 0, none⟩), .int .i64 who, strV k, .bool mine] w (AskP w tb gl gw ro (askP (tbOf L WT) who k mine)) := by
  have HAS := Lib.hid (ask_any h hf who k mine hw hk)
  have HG := Lib.hid hG
  obtain ⟨Q, hQ⟩ : ∃ Q, askP (tbOf L WT) who k mine = Q := ⟨_, rfl⟩
  rw [hQ] at HAS ⊢
  obtain ⟨K, hK⟩ : ∃ K, (⟨k.toArray⟩ : ByteArray) = K := ⟨_, rfl⟩
  unfold holdV at HAS
  unfold strV at HAS ⊢
  rw [hK] at HAS ⊢
  have HGR := Lib.hid hg
  clear h hf hQ hK hG hg hw hk
  go_enter Tryz.func22, Tryz.ntmps22
  go_wp2_with fail
  refine (HAS.out).mono ?_
  rintro e w1 ⟨hto, hec⟩
  have hG1 : Glob w1 := by
    obtain ⟨_, _, _, _, _, hs⟩ := hto
    exact HG.out.touch hs.touch (fun e => e HGR.out)
  have HTO := Lib.hid hto
  rcases hec with ⟨hc0, rfl⟩ | ⟨hc0, t, u, c, rfl, h1, h2, h3, h4⟩
  · have HCO := Lib.hid (code_any (W := w1) hG1 (c := []) (v := .nilIface) rfl (fun x hx => by cases hx) (by simp) (Below.refl _ _))
    have HC0 := Lib.hid hc0
    clear hto hG1 hc0
    go_wp2_with fail
    refine (HCO.out).mono ?_
    rintro e w2 ⟨rfl, hb2⟩
    have HF : Hid (AskP w tb gl gw ro Q (.returned (.int .i64 (codeOf []))) w2) := Lib.hid ⟨by rw [HC0.out]; rfl, HTO.out.below hb2⟩
    clear hb2
    go_wp2_with fail
    refine bodyPost_ret (v := .int .i64 (codeOf [])) (by simp [results, Tryz.results22, go_sem]) rfl HF.out
  · have HCO := Lib.hid (code_any (W := w1) hG1 h1 h2 h3 (Below.refl _ _))
    rw [h4] at HCO
    clear hto hG1 h1 h2 h3 h4 hc0
    obtain ⟨q1, hq1⟩ : ∃ q1, Q.1 = q1 := ⟨_, rfl⟩
    rw [hq1] at HCO
    have HQ1 := Lib.hid hq1
    clear hq1
    go_wp2_with fail
    refine (HCO.out).mono ?_
    rintro e w2 ⟨rfl, hb2⟩
    have HF : Hid (AskP w tb gl gw ro Q (.returned (.int .i64 q1)) w2) := Lib.hid ⟨by rw [HQ1.out], HTO.out.below hb2⟩
    clear hb2
    go_wp2_with fail
    refine bodyPost_ret (v := .int .i64 q1) (by simp [results, Tryz.results22, go_sem]) rfl HF.out
/-- What one waits for, as the program tells it. -/
def waitV (o : Option (KeyT × Bool)) : Value := match o with
  | some v => .tuple #[.agg #[strV v.1, .bool v.2], .bool true]
  | none => .tuple #[.agg #[.string ⟨#[]⟩, .bool false], .bool false]
set_option maxRecDepth 100000 in
set_option maxHeartbeats 2000000 in
theorem Waits_any {w : World} {tb gl gw : Nat} {L : List Le} {WT : List Wt} {ro : Nat → Nat} (h : TbAt w tb gl gw L WT ro) (who : Int) (hw : InR64 who) : Calls Tryz.prog 17 #[.pointer (some ⟨tb, 0, none⟩), .int .i64 who] w fun e w' => e = .returned (waitV (waitP (tbOf L WT) who)) ∧ Below w.heap.size w w' := by
  have hbz := below_new (w := w) (.cells #[.string ⟨#[]⟩, .bool false] 43)
  have hxz := alloc_at w (.cells #[.string ⟨#[]⟩, .bool false] 43)
  have h1 := h.below hbz
  obtain ⟨w1, hw1⟩ : ∃ w1, w1 = w.alloc (.cells #[.string ⟨#[]⟩, .bool false] 43) := ⟨_, rfl⟩
  rw [← hw1] at hbz hxz h1
  have t1 : w1.cell? ⟨tb, 1, none⟩ = some (.map (some gw)) := cell_of h1.head 1
  obtain ⟨MW, cW, hmw, hmp⟩ := h1.waits
  have hlook := waits_look hmw hmp L hw
  have HW1 := Lib.hid hw1
  have HBZ := Lib.hid hbz
  have HXZ := Lib.hid hxz
  rw [hw1] at t1 hlook
  clear hmw hmp h hw h1 hbz hxz hw1
  cases hwt : waitP (tbOf L WT) who with
  | some v =>
    rw [hwt] at hlook
    obtain ⟨vk, vm⟩ := v
    obtain ⟨K, hK⟩ : ∃ K, (⟨vk.toArray⟩ : ByteArray) = K := ⟨_, rfl⟩
    replace hlook : (Instr.lookup 62 (.map (some gw)) (.int .i64 who) true).run Tryz.prog (w.alloc (.cells #[.string ⟨#[]⟩, .bool false] 43)) = .ok (.tuple #[.agg #[.string K, .bool vm], .bool true]) (w.alloc (.cells #[.string ⟨#[]⟩, .bool false] 43)) := by rw [← hK]; exact hlook
    have HF : Hid (waitV (some (vk, vm)) = .tuple #[.agg #[.string K, .bool vm], .bool true]) := Lib.hid (by rw [← hK]; rfl)
    clear hwt hK
    go_enter Tryz.func17, Tryz.ntmps17
    go_wp2_with fail
    refine bodyPost_ret (v := .tuple #[.agg #[.string K, .bool vm], .bool true]) (by simp [results, Tryz.results17, go_sem]) rfl ⟨by rw [HF.out], ?_⟩
    exact (below_new _).trans ((below_new _).mono (by rw [asz]; omega))
  | none =>
    rw [hwt] at hlook
    replace hlook : (Instr.lookup 62 (.map (some gw)) (.int .i64 who) true).run Tryz.prog (w.alloc (.cells #[.string ⟨#[]⟩, .bool false] 43)) = .ok (.tuple #[.agg #[.string ⟨#[]⟩, .bool false], .bool false]) (w.alloc (.cells #[.string ⟨#[]⟩, .bool false] 43)) := hlook
    have HF : Hid (waitV none = .tuple #[.agg #[.string ⟨#[]⟩, .bool false], .bool false]) := Lib.hid rfl
    clear hwt
    go_enter Tryz.func17, Tryz.ntmps17
    go_wp2_with fail
    refine bodyPost_ret (v := .tuple #[.agg #[.string ⟨#[]⟩, .bool false], .bool false]) (by simp [results, Tryz.results17, go_sem]) rfl ⟨by rw [HF.out], ?_⟩
    exact (below_new _).trans ((below_new _).mono (by rw [asz]; omega))
end Go.Proofs.YtmchmlkbpocboaaGreatDoor
