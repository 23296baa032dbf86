/- The tape: look-ups; ready, look, open. -/
import Derived.Test.YtojmfjmnfpnmmaaDoorTapA
set_option linter.unusedSimpArgs false
set_option linter.unusedVariables false
set_option linter.unnecessarySimpa false
namespace Go.Proofs.YtojmfjmnfpnmmaaDoor
open Go.RowKit
open Go.Maps (Keyed)

theorem keyed : Keyed Tryd.prog 3 := Go.Maps.int_keyed Tryd.underlying3
theorem zeroPtr (w : World) : (zeroValue 63).run Tryd.prog w = .ok (.pointer none) w := by kernel_rfl
theorem key_int {n : Int} (h : nameB n = true) : keyOf Tryd.prog 3 (.int .i64 n) = some (.int .i64 n) := by
  obtain ⟨h0, h1⟩ := nameB_iff.1 h
  refine Go.Maps.keyOf_int_mk Tryd.underlying3 ?_
  have e1 : IntKind.i64.min = -9223372036854775808 := by decide
  have e2 : IntKind.i64.max = 9223372036854775807 := by decide
  simp [Lit.wf, e1, e2]
  omega
theorem seg_cases (L : List Ent) (n : Int) : (∃ (j : Nat) (e : Ent), L[j]? = some e ∧ e.n = n) ∨ ∀ e ∈ L, e.n ≠ n := by
  by_cases h : ∃ e ∈ L, e.n = n
  · obtain ⟨e, he, hn⟩ := h
    obtain ⟨j, hj⟩ := List.getElem?_of_mem he
    exact .inl ⟨j, e, hj, hn⟩
  · exact .inr fun e he hn => h ⟨e, he, hn⟩
theorem me_at {L : List Ent} {j : Nat} {e : Ent} (h : L[j]? = some e) : (L.map Ent.me)[j]? = some e.me := by rw [List.getElem?_map, h]; rfl
theorem me_miss {L : List Ent} {n : Int} (h : ∀ e ∈ L, e.n ≠ n) : ∀ e ∈ L.map Ent.me, e.key ≠ .int .i64 n := by
  intro x hx hk
  obtain ⟨e, he, rfl⟩ := List.mem_map.1 hx
  injection hk with _ hk
  exact h e he hk
section
variable (w : World) {ops : Array Oper} {rest : List Oper} {o : Oper} {a : Act} {Q : Exit → Act → World → Prop}
theorem wpList_tape_hit (hg : o.guard = none) (m x : Operand) (hop : o.op = Op.lookup 54 m x false) {mo : Option Nat} {L : List Ent} {c : Nat} (h : MapPart w mo L c) (hm : a.eval m = .map mo) (n : Int) (hx : a.eval x = .int .i64 n) (hn : nameB n = true) {j : Nat} {e : Ent} (hj : L[j]? = some e) (he : e.n = n)
    (hK : wpList Tryd.prog ops Q rest (a.put o.dst (.pointer (some ⟨e.sb, 0, none⟩))) w) : wpList Tryd.prog ops Q (o :: rest) a w := by
  cases mo with
  | none =>
    have h : L = [] := h
    rw [h] at hj
    cases hj
  | some r => exact wpList_look_hit w hg m x 54 false hop keyed Tryd.underlying54 (h : MapIs _ _ w r (L.map Ent.me) c) hm _ _ hx (key_int hn) (me_at hj) (by rw [← he]; rfl) hK
theorem wpList_tape_miss (hg : o.guard = none) (m x : Operand) (hop : o.op = Op.lookup 54 m x false) {mo : Option Nat} {L : List Ent} {c : Nat} (h : MapPart w mo L c) (hm : a.eval m = .map mo) (n : Int) (hx : a.eval x = .int .i64 n) (hn : nameB n = true) (hL : ∀ e ∈ L, e.n ≠ n)
    (hK : wpList Tryd.prog ops Q rest (a.put o.dst (.pointer none)) w) : wpList Tryd.prog ops Q (o :: rest) a w := by
  cases mo with
  | none =>
    refine wpList_plain hg fun K' hK' => ?_
    have hr := Go.Maps.look_nil (w := w) false keyed Tryd.underlying54 (zeroPtr w) (key_int hn)
    unfold Oper.wp
    simp only [execOp, hop, hm, hx, Sem.run_bind, Sem.run_pure, hr, Result.andThen]
    exact hK' _ _ hK
  | some r => exact wpList_look_miss w hg m x 54 false hop keyed Tryd.underlying54 (zeroPtr w) (h : MapIs _ _ w r (L.map Ent.me) c) hm _ _ hx (key_int hn) (me_miss hL) hK
theorem wpList_tape_len (hg : o.guard = none) (m : Operand) (hop : o.op = Op.call { callee := Callee.builtin Builtin.len, args := #[m], argTypes := #[54] }) {mo : Option Nat} {L : List Ent} {c : Nat} (h : MapPart w mo L c) (hm : a.eval m = .map mo)
    (hK : wpList Tryd.prog ops Q rest (a.put o.dst (.int .i64 (L.length : Int))) w) : wpList Tryd.prog ops Q (o :: rest) a w := by
  cases mo with
  | none =>
    have h : L = [] := h
    subst h
    refine wpList_plain hg fun K' hK' => ?_
    have hr := Go.Maps.len_nil (P := Tryd.prog) (w := w) Tryd.underlying54 o.type
    unfold Oper.wp
    simp only [execOp, hop, resolve, invoke, builtin, Sem.run_bind, Sem.run_pure, Result.andThen_ok, List.map_toArray, List.map_cons, List.map_nil, hm, hr]
    exact hK' _ _ hK
  | some r =>
    have := wpList_map_len w hg m 54 hop Tryd.underlying54 (h : MapIs _ _ w r (L.map Ent.me) c) hm (by rw [List.length_map]; exact hK)
    exact this
end
theorem TapeAt.one {w : World} {t : Nat} {T : Tp} (h : TapeAt w t T) {i j : Nat} {a b : Ent} (ha : T.L[i]? = some a) (hb : T.L[j]? = some b) (hn : a.n = b.n) : i = j := by
  have hm := h.map
  cases hT : T.m with
  | none => rw [hT] at hm; rw [show T.L = [] from hm] at ha; cases ha
  | some m =>
    rw [hT] at hm
    exact MapIs.inj (hm : MapIs _ _ w m (T.L.map Ent.me) T.clock) (me_at ha) (me_at hb) (by unfold Ent.me; rw [hn])

/-- What is wrong with a change of that segment, be it there or not. -/
def readyE (T : Tp) (seg : Int) : Int := if nameB seg = false then 2 else if T.down then 8 else 0
set_option maxRecDepth 100000 in
theorem ready_nil {w : World} (seg : Int) : Calls Tryd.prog 30 #[.pointer none, .int .i64 seg] w fun e w' => ∃ v, e = .returned v ∧ ErrP 1 w v w' := by
  have HN := Lib.hid (named_nil (w := w) seg)
  go_enter Tryd.func30, Tryd.ntmps30
  go_wp2_with fail
  refine (HN.out).mono ?_
  rintro e w1 ⟨v1, rfl, h1⟩
  have H1 := Lib.hid h1
  obtain ⟨t, u, rfl⟩ := h1.form (by decide)
  clear h1
  go_wp2
  go_ret
  exact ⟨_, rfl, H1.out⟩
set_option maxRecDepth 100000 in
theorem ready_any {w : World} {t : Nat} {T : Tp} (hT : TapeAt w t T) (seg : Int) : Calls Tryd.prog 30 #[.pointer (some ⟨t, 0, none⟩), .int .i64 seg] w fun e w' => ∃ v, e = .returned v ∧ ErrP (readyE T seg) w v w' := by
  have hc := cell_of hT.head 4
  by_cases hn : nameB seg = false
  · have HN := Lib.hid (named_no (w := w) ⟨t, 0, none⟩ hn)
    have e : readyE T seg = 2 := by unfold readyE; rw [if_pos hn]
    rw [e]
    clear hc hn e
    go_enter Tryd.func30, Tryd.ntmps30
    go_wp2_with fail
    refine (HN.out).mono ?_
    rintro e w1 ⟨v1, rfl, h1⟩
    have H1 := Lib.hid h1
    obtain ⟨t, u, rfl⟩ := h1.form (by decide)
    clear h1
    go_wp2
    go_ret
    exact ⟨_, rfl, H1.out⟩
  · have hn' : nameB seg = true := by cases h : nameB seg <;> simp_all
    have HN := Lib.hid (named_ok (w := w) ⟨t, 0, none⟩ hn')
    by_cases hd : T.down = true
    · have e : readyE T seg = 8 := by unfold readyE; rw [if_neg hn, if_pos hd]
      rw [e]
      have hc' : w.cell? ⟨t, 4, none⟩ = some (.bool true) := by rw [hc, ← hd]; rfl
      have HW := Lib.hid (new_any 8 w)
      clear hc hn hn' e hd
      go_enter Tryd.func30, Tryd.ntmps30
      go_wp2_with fail
      refine (HN.out).mono ?_
      rintro e w1 ⟨rfl, rfl⟩
      go_wp2_with fail
      refine (HW.out).mono ?_
      rintro e w1 ⟨v1, rfl, he1, hb1⟩
      have HA := Lib.hid (at_any seg he1)
      have HB1 := Lib.hid hb1
      clear he1 hb1
      go_wp2_with fail
      refine (HA.out).mono ?_
      rintro e w2 ⟨v2, rfl, he2, hb2⟩
      have H2 : Hid (ErrP 8 w v2 w2) := .of _ he2 (HB1.out.trans (hb2.mono HB1.out.size)) rfl (by simp [newL, onto_cons]) (by decide) (.cons rfl (numOk_one (by decide))) (by simp [newL, onto_cons])
      clear he2 hb2
      go_wp2
      go_ret
      exact ⟨_, rfl, H2.out⟩
    · have hd' : T.down = false := by cases h : T.down <;> simp_all
      have e : readyE T seg = 0 := by unfold readyE; rw [if_neg hn, if_neg hd]
      rw [e]
      have hc' : w.cell? ⟨t, 4, none⟩ = some (.bool false) := by rw [hc, ← hd']; rfl
      clear hc hn hn' e hd hd'
      go_enter Tryd.func30, Tryd.ntmps30
      go_wp2_with fail
      refine (HN.out).mono ?_
      rintro e w1 ⟨rfl, rfl⟩
      go_wp2
      go_ret
      exact ⟨_, rfl, .none _⟩

set_option maxRecDepth 100000 in
theorem look_nil' {w : World} (seg : Int) : Calls Tryd.prog 40 #[.pointer none, .int .i64 seg] w fun e w' => ∃ v, e = .returned (.tuple #[.pointer none, v]) ∧ ErrP 1 w v w' := by
  have HN := Lib.hid (named_nil (w := w) seg)
  go_enter Tryd.func40, Tryd.ntmps40
  go_wp2_with fail
  refine (HN.out).mono ?_
  rintro e w1 ⟨v1, rfl, h1⟩
  have H1 := Lib.hid h1
  obtain ⟨t, u, rfl⟩ := h1.form (by decide)
  clear h1
  go_wp2
  go_ret2
  exact ⟨_, rfl, H1.out⟩
set_option maxRecDepth 100000 in
theorem look_no {w : World} (t : Nat) {seg : Int} (hn : nameB seg = false) : Calls Tryd.prog 40 #[.pointer (some ⟨t, 0, none⟩), .int .i64 seg] w fun e w' => ∃ v, e = .returned (.tuple #[.pointer none, v]) ∧ ErrP 2 w v w' := by
  have HN := Lib.hid (named_no (w := w) ⟨t, 0, none⟩ hn)
  clear hn
  go_enter Tryd.func40, Tryd.ntmps40
  go_wp2_with fail
  refine (HN.out).mono ?_
  rintro e w1 ⟨v1, rfl, h1⟩
  have H1 := Lib.hid h1
  obtain ⟨t, u, rfl⟩ := h1.form (by decide)
  clear h1
  go_wp2
  go_ret2
  exact ⟨_, rfl, H1.out⟩
set_option maxRecDepth 100000 in
theorem look_hit {w : World} {t : Nat} {T : Tp} (hT : TapeAt w t T) {seg : Int} (hn : nameB seg = true) {j : Nat} {e : Ent} (hj : T.L[j]? = some e) (he : e.n = seg) : Calls Tryd.prog 40 #[.pointer (some ⟨t, 0, none⟩), .int .i64 seg] w fun x w' => x = .returned (.tuple #[.pointer (some ⟨e.sb, 0, none⟩), .nilIface]) ∧ w = w' := by
  have HN := Lib.hid (named_ok (w := w) ⟨t, 0, none⟩ hn)
  have hc : w.cell? ⟨t, 0, none⟩ = some (.map T.m) := cell_of hT.head 0
  have HM := Lib.hid hT.map
  have HNN := Lib.hid hn
  have HJ := Lib.hid hj
  have HE := Lib.hid he
  clear hn hj he
  go_enter Tryd.func40, Tryd.ntmps40
  go_wp2_with fail
  refine (HN.out).mono ?_
  rintro x w1 ⟨rfl, rfl⟩
  go_wp2_with (at_lookup; refine wpList_tape_hit _ rfl _ _ rfl HM.out rfl seg rfl HNN.out HJ.out HE.out ?_)
  go_wp2
  go_ret2
  exact ⟨rfl, rfl⟩
set_option maxRecDepth 100000 in
theorem look_miss {w : World} {t : Nat} {T : Tp} (hT : TapeAt w t T) {seg : Int} (hn : nameB seg = true) (hL : ∀ e ∈ T.L, e.n ≠ seg) : Calls Tryd.prog 40 #[.pointer (some ⟨t, 0, none⟩), .int .i64 seg] w fun x w' => ∃ v, x = .returned (.tuple #[.pointer none, v]) ∧ ErrP 3 w v w' := by
  have HN := Lib.hid (named_ok (w := w) ⟨t, 0, none⟩ hn)
  have hc : w.cell? ⟨t, 0, none⟩ = some (.map T.m) := cell_of hT.head 0
  have HM := Lib.hid hT.map
  have HNN := Lib.hid hn
  have HL := Lib.hid hL
  have HW := Lib.hid (new_any 3 w)
  clear hn hL
  go_enter Tryd.func40, Tryd.ntmps40
  go_wp2_with fail
  refine (HN.out).mono ?_
  rintro x w1 ⟨rfl, rfl⟩
  go_wp2_with (at_lookup; refine wpList_tape_miss _ rfl _ _ rfl HM.out rfl seg rfl HNN.out HL.out ?_)
  go_wp2_with fail
  refine (HW.out).mono ?_
  rintro e w1 ⟨v1, rfl, he1, hb1⟩
  have HA := Lib.hid (at_any seg he1)
  have HB1 := Lib.hid hb1
  clear he1 hb1
  go_wp2_with fail
  refine (HA.out).mono ?_
  rintro e w2 ⟨v2, rfl, he2, hb2⟩
  have H2 : Hid (ErrP 3 w v2 w2) := .of _ he2 (HB1.out.trans (hb2.mono HB1.out.size)) rfl (by simp [newL, onto_cons]) (by decide) (.cons rfl (numOk_one (by decide))) (by simp [newL, onto_cons])
  clear he2 hb2
  go_wp2
  go_ret2
  exact ⟨_, rfl, H2.out⟩

set_option maxRecDepth 100000 in
theorem open_nil {w : World} (seg : Int) : Calls Tryd.prog 36 #[.pointer none, .int .i64 seg] w fun e w' => ∃ v, e = .returned (.tuple #[.pointer none, v]) ∧ ErrP 1 w v w' := by
  have HN := Lib.hid (ready_nil (w := w) seg)
  go_enter Tryd.func36, Tryd.ntmps36
  go_wp2_with fail
  refine (HN.out).mono ?_
  rintro e w1 ⟨v1, rfl, h1⟩
  have H1 := Lib.hid h1
  obtain ⟨t, u, rfl⟩ := h1.form (by decide)
  clear h1
  go_wp2
  go_ret2
  exact ⟨_, rfl, H1.out⟩
set_option maxRecDepth 100000 in
theorem open_no {w : World} {t : Nat} {T : Tp} (hT : TapeAt w t T) {seg : Int} (hE : readyE T seg ≠ 0) : Calls Tryd.prog 36 #[.pointer (some ⟨t, 0, none⟩), .int .i64 seg] w fun e w' => ∃ v, e = .returned (.tuple #[.pointer none, v]) ∧ ErrP (readyE T seg) w v w' := by
  have HN := Lib.hid (ready_any hT seg)
  have HE := Lib.hid hE
  clear hE
  go_enter Tryd.func36, Tryd.ntmps36
  go_wp2_with fail
  refine (HN.out).mono ?_
  rintro e w1 ⟨v1, rfl, h1⟩
  have H1 := Lib.hid h1
  obtain ⟨t, u, rfl⟩ := h1.form HE.out
  clear h1
  go_wp2
  go_ret2
  exact ⟨_, rfl, H1.out⟩
theorem readyE_zero {T : Tp} {seg : Int} (h : readyE T seg = 0) : nameB seg = true ∧ T.down = false := by
  unfold readyE at h
  cases h1 : nameB seg <;> cases h2 : T.down <;> simp_all
set_option maxRecDepth 100000 in
theorem open_hit {w : World} {t : Nat} {T : Tp} (hT : TapeAt w t T) {seg : Int} (hE : readyE T seg = 0) {j : Nat} {e : Ent} (hj : T.L[j]? = some e) (he : e.n = seg) : Calls Tryd.prog 36 #[.pointer (some ⟨t, 0, none⟩), .int .i64 seg] w fun x w' => x = .returned (.tuple #[.pointer (some ⟨e.sb, 0, none⟩), .nilIface]) ∧ Below w.heap.size w w' := by
  have HN := Lib.hid (ready_any hT seg)
  have HL := Lib.hid (fun W (hW : Below w.heap.size w W) => look_hit (hT.below hW) (readyE_zero hE).1 hj he)
  rw [hE] at HN
  clear hE hj he
  go_enter Tryd.func36, Tryd.ntmps36
  go_wp2_with fail
  refine (HN.out).mono ?_
  rintro x w1 ⟨v1, rfl, h1⟩
  obtain ⟨rfl, hb⟩ := h1.nil
  have HB := Lib.hid hb
  clear h1 hb
  go_wp2_with fail
  refine (HL.out _ HB.out).mono ?_
  rintro x w2 ⟨rfl, rfl⟩
  go_wp2
  go_ret2
  exact ⟨rfl, HB.out⟩
set_option maxRecDepth 100000 in
theorem open_miss {w : World} {t : Nat} {T : Tp} (hT : TapeAt w t T) {seg : Int} (hE : readyE T seg = 0) (hL : ∀ e ∈ T.L, e.n ≠ seg) : Calls Tryd.prog 36 #[.pointer (some ⟨t, 0, none⟩), .int .i64 seg] w fun x w' => ∃ v, x = .returned (.tuple #[.pointer none, v]) ∧ ErrP 3 w v w' := by
  have HN := Lib.hid (ready_any hT seg)
  have HL := Lib.hid (fun W (hW : Below w.heap.size w W) => look_miss (hT.below hW) (readyE_zero hE).1 hL)
  rw [hE] at HN
  clear hE hL
  go_enter Tryd.func36, Tryd.ntmps36
  go_wp2_with fail
  refine (HN.out).mono ?_
  rintro x w1 ⟨v1, rfl, h1⟩
  obtain ⟨rfl, hb⟩ := h1.nil
  have HB := Lib.hid hb
  clear h1 hb
  go_wp2_with fail
  refine (HL.out _ HB.out).mono ?_
  rintro x w2 ⟨v2, rfl, h2⟩
  have H2 := Lib.hid (h2.after HB.out)
  clear h2
  go_wp2
  go_ret2
  exact ⟨_, rfl, H2.out⟩
end Go.Proofs.YtojmfjmnfpnmmaaDoor
