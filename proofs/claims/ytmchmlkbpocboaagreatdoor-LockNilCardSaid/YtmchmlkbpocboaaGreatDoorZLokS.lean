/- lock: again, and what one waits for. lock: one waits from now on; ask. -/
import Derived.Test.YtmchmlkbpocboaaGreatDoorZLokQ
set_option linter.unusedSimpArgs false
set_option linter.unusedVariables false
set_option linter.unnecessarySimpa false
namespace Go.Proofs.YtmchmlkbpocboaaGreatDoor
open Go.RowKit

set_option maxRecDepth 100000 in
set_option maxHeartbeats 2000000 in
theorem again_any {w : World} (a b : KeyT × Bool) : Calls Tryz.prog 74 #[holdV a, holdV b] w (ErrK (if a = b then 20 else 9) w) := by
  obtain ⟨ak, am⟩ := a
  obtain ⟨bk, bm⟩ := b
  unfold holdV
  have hb1 := below_new (w := w) (.cells #[strV ak, .bool am] 43)
  have hb2 := below_new (w := w.alloc (.cells #[strV ak, .bool am] 43)) (.cells #[strV bk, .bool bm] 43)
  have hx1 := (hb2.block w.heap.size (by rw [asz]; omega)).trans (alloc_at w (.cells #[strV ak, .bool am] 43))
  have hx2 := alloc_at (w.alloc (.cells #[strV ak, .bool am] 43)) (.cells #[strV bk, .bool bm] 43)
  rw [asz] at hx2
  obtain ⟨w1, hw1⟩ : ∃ w1, w1 = (w.alloc (.cells #[strV ak, .bool am] 43)).alloc (.cells #[strV bk, .bool bm] 43) := ⟨_, rfl⟩
  rw [← hw1] at hx1 hx2
  have HB1 : Hid (Below w.heap.size w w1) := Lib.hid (by rw [hw1]; exact hb1.trans (hb2.mono (by rw [asz]; omega)))
  have HW1 := Lib.hid hw1
  have HX1 := Lib.hid hx1
  have a0 : w1.cell? ⟨w.heap.size, 0, none⟩ = some (strV ak) := cell_of hx1 0
  have a1 : w1.cell? ⟨w.heap.size, 1, none⟩ = some (.bool am) := cell_of hx1 1
  have b0 : w1.cell? ⟨w.heap.size + 1, 0, none⟩ = some (strV bk) := cell_of hx2 0
  have b1 : w1.cell? ⟨w.heap.size + 1, 1, none⟩ = some (.bool bm) := cell_of hx2 1
  have HS : Hid (w1.drew.cell? ⟨w.heap.size, 0, none⟩ = some (strV ak)) := Lib.hid (cell_of hx1 0)
  unfold strV at *
  have HBU := Lib.hid (busy_any (w := w1) ⟨ak.toArray⟩ am)
  clear hb1 hb2 hx1 hx2 hw1
  by_cases hk : ak = bk
  · by_cases hm : am = bm
    · have HE : Hid ((if ((ak, am) : KeyT × Bool) = (bk, bm) then (20 : Int) else 9) = 20) := Lib.hid (if_pos (by rw [hk, hm]))
      rw [HE.out]
      subst hk
      subst hm
      go_enter Tryz.func74, Tryz.ntmps74
      go_wp2_with fail
      rw [← HW1.out]
      refine (HBU.out).mono ?_
      rintro e w2 ⟨t, u, c, rfl, e1, e2, e3, e4, hb2⟩
      have HK := Lib.hid (And.intro e1 (And.intro e2 (And.intro e3 e4)))
      have HB2 := Lib.hid (HB1.out.trans (hb2.mono HB1.out.size))
      clear e1 e2 e3 e4 hb2
      go_wp2_with fail
      refine bodyPost_ret (v := .iface t u) (by simp [results, Tryz.results74, go_sem]) rfl ⟨t, u, c, rfl, HK.out.1, HK.out.2.1, HK.out.2.2.1, HK.out.2.2.2, HB2.out⟩
    · have HE : Hid ((if ((ak, am) : KeyT × Bool) = (bk, bm) then (20 : Int) else 9) = 9) := Lib.hid (if_neg (fun e => hm (by injection e)))
      rw [HE.out]
      subst hk
      go_enter Tryz.func74, Tryz.ntmps74
      go_wp2_with fail
      rw [← HW1.out]
      refine wp_region_held_drew (S := fun W => W.cell? ⟨w.heap.size, 0, none⟩ = some (.string ⟨ak.toArray⟩)) (by kernel_rfl) HS.out (fun hHeld => ?_)
      refine wpAnyH_take (i := 0) (oi := { dst := some 8, op := Op.fieldAddr 43 (Operand.tmp 2) 0, type := 0, pos := "lock.go:119", after := #[], guard := none }) (v := ?vv1) rfl (by kernel_rfl) (by kernel_rfl) (by kernel_rfl) (fun _ _ _ h => h) ?hy1 (by assumption) ?rest1
      case hy1 => (refine Or.inl ⟨by rfl, ?_⟩; intro W hSw; (try dsimp only at hSw); go_simp; (try with_reducible rfl))
      try simp only [Act.put, List.setIfInBounds_toArray, List.set_cons_zero, List.set_cons_succ]
      refine wpAnyH_take (i := 1) (oi := { dst := some 9, op := Op.load 9 (Operand.tmp 8), type := 9, pos := "lock.go:119", after := #[{ on := 0, ground := Ground.data }], guard := none }) (v := ?vv2) rfl (by kernel_rfl) (by kernel_rfl) (by kernel_rfl) (fun _ _ _ h => h) ?hy2 (by assumption) ?rest2
      case hy2 => (refine Or.inl ⟨by rfl, ?_⟩; intro W hSw; (try dsimp only at hSw); go_simp; (try with_reducible rfl))
      try simp only [Act.put, List.setIfInBounds_toArray, List.set_cons_zero, List.set_cons_succ]
      refine wpAnyH_ready (rs := [2]) (by kernel_rfl) (by simp) ?_
      refine AllReadyH.cons (o := { dst := some 10, op := Op.call { callee := Callee.value (Operand.func 103), args := #[Operand.const (Value.int IntKind.i64 9)], argTypes := #[55] }, type := 98, pos := "lock.go:119", after := #[], guard := none }) rfl (fun K hK => ?step3) ?more3
      case more3 => exact AllReadyH.nil
      ((go_simp; go_at_call 103; refine (new_num 9 (by decide) _).mono ?_; rintro e w2 ⟨rfl, rfl⟩; go_wp2_with fail))
      refine hK.out _ _ ?hS3 (fun hHeld => ?rr3)
      case hS3 => (exact HS.out)
      clear hK K
      try simp only [Act.put, List.setIfInBounds_toArray, List.set_cons_zero, List.set_cons_succ]
      refine wpAnyH_ready (rs := [3]) (by kernel_rfl) (by simp) ?_
      refine AllReadyH.cons (o := { dst := some 11, op := Op.call { callee := Callee.value (Operand.func 104), args := #[Operand.tmp 9, Operand.tmp 10], argTypes := #[9, 98] }, type := 98, pos := "lock.go:119", after := #[{ on := 1, ground := Ground.data }, { on := 2, ground := Ground.data }, { on := 2, ground := Ground.chain }], guard := none }) rfl (fun K hK => ?step4) ?more4
      case more4 => exact AllReadyH.nil
      ((go_simp; go_at_call 104; refine (in_any ⟨ak.toArray⟩ (errk_num w1.drew)).mono ?_; intro e w2 hm; obtain ⟨t, u, c, rfl, e1, e2, e3, e4, hb2⟩ := errk_of (code := 9) (by intro x h; cases h) rfl (by decide) hm; go_wp2_with fail))
      refine hK.out _ _ ?hS4 (fun hHeld => ?rr4)
      case hS4 => (exact cell_of ((hb2.block _ (heap_lt HX1.out)).trans HX1.out) 0)
      clear hK K
      try simp only [Act.put, List.setIfInBounds_toArray, List.set_cons_zero, List.set_cons_succ]
      refine wpAnyH_take (i := 4) (oi := { dst := some 4, op := Op.assign (Operand.tmp 11), type := 98, pos := "lock.go:119", after := #[{ on := 3, ground := Ground.data }, { on := 3, ground := Ground.chain }, { on := 0, ground := Ground.phase }, { on := 1, ground := Ground.phase }, { on := 2, ground := Ground.phase }, { on := 3, ground := Ground.phase }], guard := none }) (v := ?vv5) rfl (by kernel_rfl) (by kernel_rfl) (by kernel_rfl) (fun _ _ _ h => h) ?hy5 (by assumption) ?rest5
      case hy5 => (refine Or.inl ⟨by rfl, ?_⟩; intro W hSw; (try dsimp only at hSw); go_simp; (try with_reducible rfl))
      try simp only [Act.put, List.setIfInBounds_toArray, List.set_cons_zero, List.set_cons_succ]
      refine wpAnyH_done (by kernel_rfl) ?_ _
      have HK := Lib.hid (And.intro e1 (And.intro e2 (And.intro e3 e4)))
      have HB2 := Lib.hid (HB1.out.trans ((below_of_drew hb2).mono HB1.out.size))
      clear hHeld HS e1 e2 e3 e4 hb2 hm
      go_wp2_with fail
      refine bodyPost_ret (v := .iface t u) (by simp [results, Tryz.results74, go_sem]) rfl ⟨t, u, c, rfl, HK.out.1, HK.out.2.1, HK.out.2.2.1, HK.out.2.2.2, HB2.out⟩
  · have HE : Hid ((if ((ak, am) : KeyT × Bool) = (bk, bm) then (20 : Int) else 9) = 9) := Lib.hid (if_neg (fun e => hk (by injection e)))
    rw [HE.out]
    go_enter Tryz.func74, Tryz.ntmps74
    go_wp2_with fail
    rw [← HW1.out]
    refine wp_region_held_drew (S := fun W => W.cell? ⟨w.heap.size, 0, none⟩ = some (.string ⟨ak.toArray⟩)) (by kernel_rfl) HS.out (fun hHeld => ?_)
    refine wpAnyH_take (i := 0) (oi := { dst := some 8, op := Op.fieldAddr 43 (Operand.tmp 2) 0, type := 0, pos := "lock.go:119", after := #[], guard := none }) (v := ?vv6) rfl (by kernel_rfl) (by kernel_rfl) (by kernel_rfl) (fun _ _ _ h => h) ?hy6 (by assumption) ?rest6
    case hy6 => (refine Or.inl ⟨by rfl, ?_⟩; intro W hSw; (try dsimp only at hSw); go_simp; (try with_reducible rfl))
    try simp only [Act.put, List.setIfInBounds_toArray, List.set_cons_zero, List.set_cons_succ]
    refine wpAnyH_take (i := 1) (oi := { dst := some 9, op := Op.load 9 (Operand.tmp 8), type := 9, pos := "lock.go:119", after := #[{ on := 0, ground := Ground.data }], guard := none }) (v := ?vv7) rfl (by kernel_rfl) (by kernel_rfl) (by kernel_rfl) (fun _ _ _ h => h) ?hy7 (by assumption) ?rest7
    case hy7 => (refine Or.inl ⟨by rfl, ?_⟩; intro W hSw; (try dsimp only at hSw); go_simp; (try with_reducible rfl))
    try simp only [Act.put, List.setIfInBounds_toArray, List.set_cons_zero, List.set_cons_succ]
    refine wpAnyH_ready (rs := [2]) (by kernel_rfl) (by simp) ?_
    refine AllReadyH.cons (o := { dst := some 10, op := Op.call { callee := Callee.value (Operand.func 103), args := #[Operand.const (Value.int IntKind.i64 9)], argTypes := #[55] }, type := 98, pos := "lock.go:119", after := #[], guard := none }) rfl (fun K hK => ?step8) ?more8
    case more8 => exact AllReadyH.nil
    ((go_simp; go_at_call 103; refine (new_num 9 (by decide) _).mono ?_; rintro e w2 ⟨rfl, rfl⟩; go_wp2_with fail))
    refine hK.out _ _ ?hS8 (fun hHeld => ?rr8)
    case hS8 => (exact HS.out)
    clear hK K
    try simp only [Act.put, List.setIfInBounds_toArray, List.set_cons_zero, List.set_cons_succ]
    refine wpAnyH_ready (rs := [3]) (by kernel_rfl) (by simp) ?_
    refine AllReadyH.cons (o := { dst := some 11, op := Op.call { callee := Callee.value (Operand.func 104), args := #[Operand.tmp 9, Operand.tmp 10], argTypes := #[9, 98] }, type := 98, pos := "lock.go:119", after := #[{ on := 1, ground := Ground.data }, { on := 2, ground := Ground.data }, { on := 2, ground := Ground.chain }], guard := none }) rfl (fun K hK => ?step9) ?more9
    case more9 => exact AllReadyH.nil
    ((go_simp; go_at_call 104; refine (in_any ⟨ak.toArray⟩ (errk_num w1.drew)).mono ?_; intro e w2 hm; obtain ⟨t, u, c, rfl, e1, e2, e3, e4, hb2⟩ := errk_of (code := 9) (by intro x h; cases h) rfl (by decide) hm; go_wp2_with fail))
    refine hK.out _ _ ?hS9 (fun hHeld => ?rr9)
    case hS9 => (exact cell_of ((hb2.block _ (heap_lt HX1.out)).trans HX1.out) 0)
    clear hK K
    try simp only [Act.put, List.setIfInBounds_toArray, List.set_cons_zero, List.set_cons_succ]
    refine wpAnyH_take (i := 4) (oi := { dst := some 4, op := Op.assign (Operand.tmp 11), type := 98, pos := "lock.go:119", after := #[{ on := 3, ground := Ground.data }, { on := 3, ground := Ground.chain }, { on := 0, ground := Ground.phase }, { on := 1, ground := Ground.phase }, { on := 2, ground := Ground.phase }, { on := 3, ground := Ground.phase }], guard := none }) (v := ?vv10) rfl (by kernel_rfl) (by kernel_rfl) (by kernel_rfl) (fun _ _ _ h => h) ?hy10 (by assumption) ?rest10
    case hy10 => (refine Or.inl ⟨by rfl, ?_⟩; intro W hSw; (try dsimp only at hSw); go_simp; (try with_reducible rfl))
    try simp only [Act.put, List.setIfInBounds_toArray, List.set_cons_zero, List.set_cons_succ]
    refine wpAnyH_done (by kernel_rfl) ?_ _
    have HK := Lib.hid (And.intro e1 (And.intro e2 (And.intro e3 e4)))
    have HB2 := Lib.hid (HB1.out.trans ((below_of_drew hb2).mono HB1.out.size))
    clear hHeld HS e1 e2 e3 e4 hb2 hm
    go_wp2_with fail
    refine bodyPost_ret (v := .iface t u) (by simp [results, Tryz.results74, go_sem]) rfl ⟨t, u, c, rfl, HK.out.1, HK.out.2.1, HK.out.2.2.1, HK.out.2.2.2, HB2.out⟩
end Go.Proofs.YtmchmlkbpocboaaGreatDoor

namespace Go.Proofs.YtmchmlkbpocboaaGreatDoor
open Go.RowKit
open Go.Maps (Keyed)

theorem waitP_tb {L : List Le} {WT : List Wt} {who : Int} : waitP (tbOf L WT) who = (WT.find? (fun e => e.1 == who)).map (·.2) := rfl
theorem nowait_key {L : List Le} {WT : List Wt} {M : List MapEntry} (hm : M.map (fun e => (e.key, e.val)) = WT.map (fun x => (Value.int .i64 x.1, holdV x.2))) {who : Int} (hno : waitP (tbOf L WT) who = none) : ∀ e ∈ M, e.key ≠ .int .i64 who := fun m hm' e => by
  rw [waitP_tb, Option.map_eq_none_iff, List.find?_eq_none] at hno
  obtain ⟨x, hx, h1, _⟩ := pair_mem hm hm'
  rw [h1] at e
  injection e with _ e
  exact hno x hx (by simpa using e)
theorem TbAt.wait {W : World} {tb gl gw : Nat} {L : List Le} {WT : List Wt} {ro : Nat → Nat} (h : TbAt W tb gl gw L WT ro) {who : Int} (hw : InR64 who) (hno : waitP (tbOf L WT) who = none) (v : KeyT × Bool) :
    ∃ W', (Instr.mapUpdate 62 (.map (some gw)) (.int .i64 who) (holdV v)).run Tryz.prog W = .ok () W' ∧ TbAt W' tb gl gw L (WT ++ [(who, v)]) ro ∧ Touch (fun k => k = gw) W W' := by
  obtain ⟨M, c, h1, h2⟩ := h.waits
  obtain ⟨r1, r2⟩ := h1.put_miss keyedI Tryz.underlying62 (v := holdV v) (keyI hw) (nowait_key h2 hno)
  obtain ⟨W', hW'⟩ : ∃ W', W' = ({ W with heap := W.heap.setIfInBounds gw (.map (M ++ [(⟨.int .i64 who, holdV v, c⟩ : MapEntry)]).toArray (c + 1)) } : World) := ⟨_, rfl⟩
  rw [← hW'] at r1 r2
  have hT : Touch (fun k => k = gw) W W' := by rw [hW']; exact (Touch.refl (fun k => k = gw) W).set gw _ (fun _ => rfl)
  have hrw := h.rw
  refine ⟨W', r1, ⟨?_, ?_, ⟨_, _, r2, by rw [List.map_append, List.map_append, h2]; rfl⟩, fun e he => ?_, h.keys, fun x hx => ?_, h.rt, h.rl, h.rw, h.rn, fun k hk => Nat.lt_of_lt_of_le (h.lt k hk) hT.size, h.oneb, h.oneg, h.oner⟩, hT⟩
  · exact (hT.block tb (heap_lt h.head) (fun e => by have := h.rt; rw [e] at this; omega)).trans h.head
  · obtain ⟨M', c', h3, h4⟩ := h.lanes
    exact ⟨M', c', h3.keep (hT.block gl h3.lt (fun e => by have := h.rl; rw [e] at this; omega)), h4⟩
  · have hl := h.ln e he
    have hr := h.rn e he
    exact hl.keep hT.size (hT.block _ (heap_lt hl.head) (fun q => by have := hr.1; rw [q] at this; omega)) (hT.block _ hl.held.lt (fun q => by have := hr.2.1; rw [q] at this; omega)) (fun g hg => hT.block _ (hl.row.lt g hg) (fun q => by have := hr.2.2 g hg; rw [q] at this; omega))
  · rcases List.mem_append.1 hx with hx | hx
    · exact h.inW x hx
    · rw [List.mem_singleton.1 hx]; exact hw
/-- How much there is in a table. -/
def Few (n : Nat) (L : List Le) (WT : List Wt) : Prop := L.length ≤ n ∧ WT.length ≤ n ∧ ∀ e ∈ L, e.l.held.length + e.l.row.length ≤ n
/-- What is answered for an error of a code; 0: none. -/
def ErrC (code : Int) (e : Ending) (w' : World) : Prop := (code = 0 ∧ e = .returned .nilIface) ∨ (code ≠ 0 ∧ ∃ (t : TypeId) (u : Value) (c : List Lk), e = .returned (.iface t u) ∧ ErrIs w' c (.iface t u) ∧ NumOk c ∧ c.length < 1000 ∧ codeOf c = code)
/-- What a call that changes a table leaves. -/
def TbTo (w : World) (tb gl gw : Nat) (ro : Nat → Nat) (T : Tb) (w' : World) : Prop := ∃ L' WT' ro', TbAt w' tb gl gw L' WT' ro' ∧ tbOf L' WT' = T ∧ TStep w w' ro ro'
theorem errk_c {code : Int} {w w' : World} {e : Ending} (h : ErrK code w e w') (hc : code ≠ 0) : ErrC code e w' ∧ Below w.heap.size w w' := by
  obtain ⟨t, u, c, rfl, h1, h2, h3, h4, h5⟩ := h
  exact ⟨.inr ⟨hc, t, u, c, rfl, h1, h2, h3, h4⟩, h5⟩
end Go.Proofs.YtmchmlkbpocboaaGreatDoor
