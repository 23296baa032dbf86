/- The document's own Same (genmefc.py wrote it.) Calls of the law's, in a row that was given. Calls of the net's laws in a row, read out of an argument. Calls of the net's laws in a row, read out of an argument; and the bound of a message's time. The net with sites that are cut off: parted, Part, Heal; a packet to such a site; Twice where it is full. The net: a packet to or from a site that is cut off; Twice where it is full; Part, Heal. -/
import Derived.Test.YtmbonngjkgcijaaGreatDoorZMecE
import Derived.Test.YtmbonngjkgcijaaGreatDoorZNetT
import Derived.Test.YtmbonngjkgcijaaGreatDoorZMegA
set_option linter.unusedSimpArgs false
set_option linter.unusedVariables false
set_option linter.unnecessarySimpa false
namespace Go.Proofs.YtmbonngjkgcijaaGreatDoor
open Go.RowKit Go.Shelf

set_option maxRecDepth 100000 in
set_option maxHeartbeats 8000000 in
theorem rsame_any {w : World} {v u : Value} {m n : MsgV} (h : MsgIs w v m) (h2 : MsgIs w u n) :
    Calls Tryz.prog 23 #[v, u] w fun e w' => e = .returned (.bool (decide (m = n))) ∧ Below w.heap.size w w' := by
  obtain ⟨tA, tc, oA, oc, rfl, ht, ho, _⟩ := h
  obtain ⟨tA', tc', oA', oc', rfl, ht', ho', _⟩ := h2
  obtain ⟨kd, fr, tt, g, nd, tr, lw, co, ti, tl, os⟩ := m
  obtain ⟨kd', fr', tt', g', nd', tr', lw', co', ti', tl', os'⟩ := n
  simp only at ht ho ht' ho' ⊢
  obtain ⟨rb, hrb⟩ : ∃ b, decide ((⟨kd, fr, tt, g, nd, tr, lw, co, ti, tl, os⟩ : MsgV) = ⟨kd', fr', tt', g', nd', tr', lw', co', ti', tl', os'⟩) = b := ⟨_, rfl⟩
  rw [hrb]
  have HRB := Lib.hid hrb
  clear hrb
  have hb1 := below_new (w := w) (.cells #[.int .i64 kd, .int .i64 fr, .int .i64 tt, .int .i64 g, .int .i64 nd, .int .i64 tr, .int .i64 lw, .int .i64 co, .int .i64 ti, .slice tA tl.length tc, .slice oA os.length oc] 37)
  have hb2 := hb1.trans ((below_new (w := w.alloc (.cells #[.int .i64 kd, .int .i64 fr, .int .i64 tt, .int .i64 g, .int .i64 nd, .int .i64 tr, .int .i64 lw, .int .i64 co, .int .i64 ti, .slice tA tl.length tc, .slice oA os.length oc] 37)) (.cells #[.int .i64 kd', .int .i64 fr', .int .i64 tt', .int .i64 g', .int .i64 nd', .int .i64 tr', .int .i64 lw', .int .i64 co', .int .i64 ti', .slice tA' tl'.length tc', .slice oA' os'.length oc'] 37)).mono hb1.size)
  have HB := Lib.hid hb2
  have HT := Lib.hid (rnums_eq (ht.below hb2) (ht'.below hb2))
  have HO := Lib.hid (fun W (hW : Below w.heap.size w W) => rops_eq (ho.below hW) (ho'.below hW))
  have hat1 := alloc_at w (.cells #[.int .i64 kd, .int .i64 fr, .int .i64 tt, .int .i64 g, .int .i64 nd, .int .i64 tr, .int .i64 lw, .int .i64 co, .int .i64 ti, .slice tA tl.length tc, .slice oA os.length oc] 37)
  have hat2 := alloc_at (w.alloc (.cells #[.int .i64 kd, .int .i64 fr, .int .i64 tt, .int .i64 g, .int .i64 nd, .int .i64 tr, .int .i64 lw, .int .i64 co, .int .i64 ti, .slice tA tl.length tc, .slice oA os.length oc] 37)) (.cells #[.int .i64 kd', .int .i64 fr', .int .i64 tt', .int .i64 g', .int .i64 nd', .int .i64 tr', .int .i64 lw', .int .i64 co', .int .i64 ti', .slice tA' tl'.length tc', .slice oA' os'.length oc'] 37)
  have HA1 := Lib.hid (((below_new (w := w.alloc (.cells #[.int .i64 kd, .int .i64 fr, .int .i64 tt, .int .i64 g, .int .i64 nd, .int .i64 tr, .int .i64 lw, .int .i64 co, .int .i64 ti, .slice tA tl.length tc, .slice oA os.length oc] 37)) (.cells #[.int .i64 kd', .int .i64 fr', .int .i64 tt', .int .i64 g', .int .i64 nd', .int .i64 tr', .int .i64 lw', .int .i64 co', .int .i64 ti', .slice tA' tl'.length tc', .slice oA' os'.length oc'] 37)).block w.heap.size (heap_lt hat1)).trans hat1)
  have HA2 := Lib.hid hat2
  clear ht ho ht' ho' hb1 hb2 hat1 hat2
  by_cases he : kd = kd'
  case neg =>
    have hq : (kd == kd') = false := beq_eq_false_iff_ne.2 he
    have HN := Lib.hid he
    clear he
    go_enter Tryz.func23, Tryz.ntmps23
    go_wp2_with fail
    go_ret
    exact ⟨ret_bool (by rw [← HRB.out]; exact (decide_eq_false (fun e => HN.out (by injection e))).symm), HB.out⟩
  subst he
  by_cases he : fr = fr'
  case neg =>
    have hq : (fr == fr') = false := beq_eq_false_iff_ne.2 he
    have HN := Lib.hid he
    clear he
    go_enter Tryz.func23, Tryz.ntmps23
    go_wp2_with fail
    go_ret
    exact ⟨ret_bool (by rw [← HRB.out]; exact (decide_eq_false (fun e => HN.out (by injection e))).symm), HB.out⟩
  subst he
  by_cases he : tt = tt'
  case neg =>
    have hq : (tt == tt') = false := beq_eq_false_iff_ne.2 he
    have HN := Lib.hid he
    clear he
    go_enter Tryz.func23, Tryz.ntmps23
    go_wp2_with fail
    go_ret
    exact ⟨ret_bool (by rw [← HRB.out]; exact (decide_eq_false (fun e => HN.out (by injection e))).symm), HB.out⟩
  subst he
  by_cases he : g = g'
  case neg =>
    have hq : (g == g') = false := beq_eq_false_iff_ne.2 he
    have HN := Lib.hid he
    clear he
    go_enter Tryz.func23, Tryz.ntmps23
    go_wp2_with fail
    go_ret
    exact ⟨ret_bool (by rw [← HRB.out]; exact (decide_eq_false (fun e => HN.out (by injection e))).symm), HB.out⟩
  subst he
  by_cases he : nd = nd'
  case neg =>
    have hq : (nd == nd') = false := beq_eq_false_iff_ne.2 he
    have HN := Lib.hid he
    clear he
    go_enter Tryz.func23, Tryz.ntmps23
    go_wp2_with fail
    go_ret
    exact ⟨ret_bool (by rw [← HRB.out]; exact (decide_eq_false (fun e => HN.out (by injection e))).symm), HB.out⟩
  subst he
  by_cases he : tr = tr'
  case neg =>
    have hq : (tr == tr') = false := beq_eq_false_iff_ne.2 he
    have HN := Lib.hid he
    clear he
    go_enter Tryz.func23, Tryz.ntmps23
    go_wp2_with fail
    go_ret
    exact ⟨ret_bool (by rw [← HRB.out]; exact (decide_eq_false (fun e => HN.out (by injection e))).symm), HB.out⟩
  subst he
  by_cases he : lw = lw'
  case neg =>
    have hq : (lw == lw') = false := beq_eq_false_iff_ne.2 he
    have HN := Lib.hid he
    clear he
    go_enter Tryz.func23, Tryz.ntmps23
    go_wp2_with fail
    go_ret
    exact ⟨ret_bool (by rw [← HRB.out]; exact (decide_eq_false (fun e => HN.out (by injection e))).symm), HB.out⟩
  subst he
  by_cases he : co = co'
  case neg =>
    have hq : (co == co') = false := beq_eq_false_iff_ne.2 he
    have HN := Lib.hid he
    clear he
    go_enter Tryz.func23, Tryz.ntmps23
    go_wp2_with fail
    go_ret
    exact ⟨ret_bool (by rw [← HRB.out]; exact (decide_eq_false (fun e => HN.out (by injection e))).symm), HB.out⟩
  subst he
  by_cases he : ti = ti'
  case neg =>
    have hq : (ti == ti') = false := beq_eq_false_iff_ne.2 he
    have HN := Lib.hid he
    clear he
    go_enter Tryz.func23, Tryz.ntmps23
    go_wp2_with fail
    go_ret
    exact ⟨ret_bool (by rw [← HRB.out]; exact (decide_eq_false (fun e => HN.out (by injection e))).symm), HB.out⟩
  subst he
  obtain ⟨tb, htb⟩ : ∃ b, decide (tl = tl') = b := ⟨_, rfl⟩
  rw [htb] at HT
  obtain ⟨ob, hob⟩ : ∃ b, decide (os = os') = b := ⟨_, rfl⟩
  rw [hob] at HO
  have HR := Lib.hid (And.intro htb hob)
  obtain ⟨tn, htn⟩ : ∃ k, tl.length = k := ⟨_, rfl⟩
  obtain ⟨tn', htn'⟩ : ∃ k, tl'.length = k := ⟨_, rfl⟩
  obtain ⟨on, hon⟩ : ∃ k, os.length = k := ⟨_, rfl⟩
  obtain ⟨on', hon'⟩ : ∃ k, os'.length = k := ⟨_, rfl⟩
  rw [htn, htn'] at HT
  rw [hon, hon'] at HO HT
  rw [htn, hon, htn', hon'] at HB HA1 HA2 ⊢
  clear htb hob htn htn' hon hon'
  go_enter Tryz.func23, Tryz.ntmps23
  go_wp2_with fail
  refine (HT.out).mono ?_
  rintro e w1 ⟨rfl, hb1⟩
  have HB1 := Lib.hid (HB.out.trans (hb1.mono HB.out.size))
  have k1 : w1.cell? ⟨w.heap.size, 10, none⟩ = some (.slice oA on oc) := (hb1.cell (p := ⟨w.heap.size, 10, none⟩) (heap_lt HA1.out)).trans (cell_of HA1.out 10)
  have k2 : w1.cell? ⟨w.heap.size + 1, 10, none⟩ = some (.slice oA' on' oc') := (hb1.cell (p := ⟨w.heap.size + 1, 10, none⟩) (by have := heap_lt HA2.out; rw [asz] at this; exact this)).trans (by have := cell_of HA2.out 10; rw [asz] at this; exact this)
  clear hb1 HT
  cases tb with
  | false =>
    go_wp2_with fail
    go_ret
    exact ⟨ret_bool (by rw [← HRB.out]; exact (decide_eq_false (fun e => by have h := of_decide_eq_false HR.out.1; injection e; exact h (by assumption))).symm), HB1.out⟩
  | true =>
    go_wp2_with fail
    refine (HO.out _ HB1.out).mono ?_
    rintro e w2 ⟨rfl, hb2⟩
    have HB2 := Lib.hid (HB1.out.trans (hb2.mono HB1.out.size))
    clear hb2
    go_wp2_with fail
    go_ret
    refine ⟨ret_bool ?_, HB2.out⟩
    have h1 := of_decide_eq_true HR.out.1
    have h2 := HR.out.2
    rw [← HRB.out, ← h2]
    subst h1
    simp
end Go.Proofs.YtmbonngjkgcijaaGreatDoor

namespace Go.Proofs.YtmbonngjkgcijaaGreatDoor
open Go.RowKit Go.Shelf
/-- A call: its kind, whether it is about packets that there are, a message, two numbers. -/
structure OpN where
  kd : Int
  nr : Bool
  m : MsgV
  i : Int
  k : Int
abbrev cellN (o : OpN) (tA : Option Addr) (tc : Nat) (oA : Option Addr) (oc : Nat) : Array Value := #[.int .i64 o.kd, .bool o.nr, .int .i64 o.m.kd, .int .i64 o.m.fr, .int .i64 o.m.tt, .int .i64 o.m.g, .int .i64 o.m.nd, .int .i64 o.m.tr, .int .i64 o.m.lw, .int .i64 o.m.co, .int .i64 o.m.ti, .slice tA o.m.tl.length tc, .slice oA o.m.os.length oc, .int .i64 o.i, .int .i64 o.k]
/-- A call's fifteen cells from an address on. -/
def N15 (W : World) (p : Addr) (o : OpN) (tA : Option Addr) (tc : Nat) (oA : Option Addr) (oc : Nat) : Prop := W.cell? p = some (.int .i64 o.kd) ∧ W.cell? ⟨p.block, p.off + 1, none⟩ = some (.bool o.nr) ∧ W.cell? ⟨p.block, p.off + 2, none⟩ = some (.int .i64 o.m.kd) ∧ W.cell? ⟨p.block, p.off + 3, none⟩ = some (.int .i64 o.m.fr) ∧ W.cell? ⟨p.block, p.off + 4, none⟩ = some (.int .i64 o.m.tt) ∧ W.cell? ⟨p.block, p.off + 5, none⟩ = some (.int .i64 o.m.g) ∧ W.cell? ⟨p.block, p.off + 6, none⟩ = some (.int .i64 o.m.nd) ∧ W.cell? ⟨p.block, p.off + 7, none⟩ = some (.int .i64 o.m.tr) ∧ W.cell? ⟨p.block, p.off + 8, none⟩ = some (.int .i64 o.m.lw) ∧ W.cell? ⟨p.block, p.off + 9, none⟩ = some (.int .i64 o.m.co) ∧ W.cell? ⟨p.block, p.off + 10, none⟩ = some (.int .i64 o.m.ti) ∧ W.cell? ⟨p.block, p.off + 11, none⟩ = some (.slice tA o.m.tl.length tc) ∧ W.cell? ⟨p.block, p.off + 12, none⟩ = some (.slice oA o.m.os.length oc) ∧ W.cell? ⟨p.block, p.off + 13, none⟩ = some (.int .i64 o.i) ∧ W.cell? ⟨p.block, p.off + 14, none⟩ = some (.int .i64 o.k)
theorem N15.below {w w' : World} {p : Addr} {o : OpN} {tA oA : Option Addr} {tc oc : Nat} (h : N15 w p o tA tc oA oc) (hp : p.block < w.heap.size) (hb : Below w.heap.size w w') : N15 w' p o tA tc oA oc := by
  unfold N15 at h ⊢
  obtain ⟨a0, a1, a2, a3, a4, a5, a6, a7, a8, a9, a10, a11, a12, a13, a14⟩ := h
  have k := fun (j : Nat) => hb.cell (p := ⟨p.block, p.off + j, none⟩) hp
  exact ⟨(hb.cell hp).trans a0, (k 1).trans a1, (k 2).trans a2, (k 3).trans a3, (k 4).trans a4, (k 5).trans a5, (k 6).trans a6, (k 7).trans a7, (k 8).trans a8, (k 9).trans a9, (k 10).trans a10, (k 11).trans a11, (k 12).trans a12, (k 13).trans a13, (k 14).trans a14⟩
/-- A slice of calls that was given. -/
def OpnsAt (w : World) (v : Value) (l : List OpN) : Prop := ∃ A cap, v = .slice A l.length cap ∧ l.length ≤ cap ∧ cap ≤ maxLen ∧ ∀ (i : Nat) (o : OpN), l[i]? = some o → ∃ (a : Addr) (tA : Option Addr) (tc : Nat) (oA : Option Addr) (oc : Nat), A = some a ∧ a.block < w.heap.size ∧ N15 w (a.add (i * 15)) o tA tc oA oc ∧ NumsAt w (.slice tA o.m.tl.length tc) o.m.tl ∧ OpsAt w (.slice oA o.m.os.length oc) o.m.os
/-- What is known of the packets of a net beside what was sent. -/
def QOk (S : List MsgV) (P : List P3) : Prop := ∀ p ∈ P, (∀ m, decM p.1 = some m → m ∈ S) ∧ (0 ≤ p.2.2 ∧ p.2.2 ≤ 1000) ∧ (-9223372036854775808 ≤ p.2.1 ∧ p.2.1 ≤ 9223372036854775807)
section
variable {S : List MsgV} {P : List P3}
theorem QOk.set (h : QOk S P) (i : Nat) {q : P3} (hq : (∀ m, decM q.1 = some m → m ∈ S) ∧ (0 ≤ q.2.2 ∧ q.2.2 ≤ 1000) ∧ (-9223372036854775808 ≤ q.2.1 ∧ q.2.1 ≤ 9223372036854775807)) : QOk S (P.set i q) := fun p hp => by
  rcases List.mem_or_eq_of_mem_set hp with e | e
  · exact h p e
  · rw [e]; exact hq
end
end Go.Proofs.YtmbonngjkgcijaaGreatDoor

namespace Go.Proofs.YtmbonngjkgcijaaGreatDoor
open Go.ChangeShapes Go.WideShapes Go.RowKit Go.Deep

section
variable {H : Type} {enc : TypeId × Value → H}
theorem cells_nm : Tryz.prog.cellsOf 37 = 11 := by kernel_rfl
theorem cells_nb : Tryz.prog.cellsOf 4 = 1 := by kernel_rfl
theorem cells_nop : Tryz.prog.cellsOf 39 = 15 := by kernel_rfl
end
end Go.Proofs.YtmbonngjkgcijaaGreatDoor

namespace Go.Proofs.YtmbonngjkgcijaaGreatDoor
open Go.ChangeShapes Go.WideShapes Go.RowKit Go.Deep

section
variable {H : Type} {enc : TypeId × Value → H}
set_option maxRecDepth 100000 in
theorem nopw_open {W : World} {v : Value} {d : DataW H} {ps : List MemPlace} {r : Reach} {b0 : Nat} (hv : Value.okWide Tryz.prog W r b0 22 v)
    (h : DataW.Trod enc Tryz.prog W 0 (fun _ => true) true 22 v d ps) (hlt : ∀ x ∈ ps, x.block < W.heap.size) : ∃ l, OpnsAt W v l ∧ ∀ o ∈ l, (MsgIn o.m ∧ (-9223372036854775808 ≤ o.i ∧ o.i ≤ 9223372036854775807) ∧ (-9223372036854775808 ≤ o.k ∧ o.k ≤ 9223372036854775807)) ∧ o.m.ti ≤ 9223372036854775807 := by
  obtain ⟨A, len, cap, rfl⟩ := okWide_slice Tryz.underlying22 hv
  obtain ⟨fuel, hf⟩ := h
  rcases open_slice Tryz.underlying22 hf with ⟨h0, _⟩ | ⟨a, len', cap', m, n, D, Pl, hcs, hb, hl, hm, hmm, hx, hi⟩
  · simp [Value.cells] at h0
    obtain ⟨rfl, rfl, rfl⟩ := h0
    exact ⟨[], ⟨none, 0, rfl, Nat.le_refl _, by unfold maxLen; omega, fun i m hi => by simp at hi⟩, fun m hm => by cases hm⟩
  · simp [Value.cells] at hcs
    obtain ⟨rfl, rfl, rfl⟩ := hcs
    simp at hmm
    subst hmm
    have hps : ps = MemPlace.row a (m * Tryz.prog.cellsOf 39) ++ (List.range m).flatMap Pl := congrArg Prod.snd hx
    rw [cells_nop] at hps
    have each : ∀ i, i < len → ∃ z : OpN, ((MsgIn z.m ∧ (-9223372036854775808 ≤ z.i ∧ z.i ≤ 9223372036854775807) ∧ (-9223372036854775808 ≤ z.k ∧ z.k ≤ 9223372036854775807)) ∧ z.m.ti ≤ 9223372036854775807) ∧ ∃ tA tc oA oc, N15 W (a.add (i * 15)) z tA tc oA oc ∧ NumsAt W (.slice tA z.m.tl.length tc) z.m.tl ∧ OpsAt W (.slice oA z.m.os.length oc) z.m.os := by
      intro i hil
      obtain ⟨cs, hc, ht⟩ := hi i (by omega)
      rw [cells_nop] at hc
      obtain ⟨_, hlen, hcell⟩ := World.cells?_some hc
      obtain ⟨xs, k, _, ex, _, hxs, hel⟩ := DataW.trod_struct Tryz.underlying39 ht
      match cs, hlen with
      | [c0, c1, c2, c3, c4, c5, c6, c7, c8, c9, c10, c11, c12, c13, c14], _ =>
        match xs, hxs with
        | [q0, q1, q2, q3, q4], _ =>
          have hin0 : ∀ p, p ∈ q2.2 → p.block < W.heap.size := fun p hp => hlt p (by
            have e9 := congrArg Prod.snd ex
            simp at e9
            rw [hps]
            exact List.mem_append.2 (.inr (List.mem_flatMap.2 ⟨i, List.mem_range.2 (by omega), by rw [e9]; simp [hp]⟩)))
          have s0 := hel 0 _ rfl
          have s1 := hel 1 _ rfl
          have s2 := hel 2 _ rfl
          have s3 := hel 3 _ rfl
          have s4 := hel 4 _ rfl
          simp [cells_i, cells_nb, cells_nm] at s0 s1 s2 s3 s4
          obtain ⟨w0, e0, _⟩ := DataW.trod_int Tryz.underlying3 s0
          obtain ⟨w1, e1, _⟩ := DataW.trod_bool Tryz.underlying4 s1
          obtain ⟨w3, e3, _, i3⟩ := DataW.trod_int Tryz.underlying3 s3
          obtain ⟨w4, e4, _, i4⟩ := DataW.trod_int Tryz.underlying3 s4
          simp at e0 e1 e3 e4
          subst e0 e1 e3 e4
          obtain ⟨xs, k, _, ex, _, hxs, hel⟩ := DataW.trod_struct Tryz.underlying37 s2
          match xs, hxs with
          | [y0, y1, y2, y3, y4, y5, y6, y7, y8, y9, y10], _ =>
            have hin : ∀ p, p ∈ y9.2 ∨ p ∈ y10.2 → p.block < W.heap.size := fun p hp => hin0 p (by
              have e9 := congrArg Prod.snd ex
              simp at e9
              rw [e9]
              rcases hp with hp | hp <;> simp [hp])
            have t0 := hel 0 _ rfl
            have t1 := hel 1 _ rfl
            have t2 := hel 2 _ rfl
            have t3 := hel 3 _ rfl
            have t4 := hel 4 _ rfl
            have t5 := hel 5 _ rfl
            have t6 := hel 6 _ rfl
            have t7 := hel 7 _ rfl
            have t8 := hel 8 _ rfl
            have t9 := hel 9 _ rfl
            have t10 := hel 10 _ rfl
            simp [cells_i, cells_l, cells_s, cells_e, cells_nt, cells_ot] at t0 t1 t2 t3 t4 t5 t6 t7 t8 t9 t10
            obtain ⟨z0, e0, _⟩ := DataW.trod_int Tryz.underlying3 t0
            obtain ⟨z1, e1, _⟩ := DataW.trod_int Tryz.underlying3 t1
            obtain ⟨z2, e2, _⟩ := DataW.trod_int Tryz.underlying3 t2
            obtain ⟨z3, e3, _⟩ := DataW.trod_int Tryz.underlying3 t3
            obtain ⟨z4, e4, _⟩ := DataW.trod_int Tryz.underlying3 t4
            obtain ⟨z5, e5, _⟩ := DataW.trod_int Tryz.underlying3 t5
            obtain ⟨z6, e6, _⟩ := DataW.trod_int Tryz.underlying3 t6
            obtain ⟨z7, e7, _⟩ := DataW.trod_int Tryz.underlying24 t7
            obtain ⟨z8, e8, _, w8⟩ := DataW.trod_int Tryz.underlying2 t8
            simp at e0 e1 e2 e3 e4 e5 e6 e7 e8
            subst e0 e1 e2 e3 e4 e5 e6 e7 e8
            obtain ⟨tl, tA, tc, rfl, hn, hnr⟩ := nums_trod t9 (fun p hp => hin p (.inl hp))
            obtain ⟨os, oA, oc, rfl, ho, hor⟩ := ops_trod t10 (fun p hp => hin p (.inr hp))
            have k0 := hcell 0 (by omega)
            have kk := fun j (hj : j < 15) => hcell j hj
            have e : (a.add (i * 15)).add 0 = a.add (i * 15) := by simp [Addr.add]
            refine ⟨⟨w0, w1, ⟨z0, z1, z2, z3, z4, z5, z6, z7, z8, tl, os⟩, w3, w4⟩, ⟨⟨⟨hnr, hor⟩, bnd_i64 i3, bnd_i64 i4⟩, (bnd_i64 w8).2⟩, tA, tc, oA, oc, ⟨?_, kk 1 (by decide), kk 2 (by decide), kk 3 (by decide), kk 4 (by decide), kk 5 (by decide), kk 6 (by decide), kk 7 (by decide), kk 8 (by decide), kk 9 (by decide), kk 10 (by decide), kk 11 (by decide), kk 12 (by decide), kk 13 (by decide), kk 14 (by decide)⟩, hn, ho⟩
            rw [← e]
            exact k0
    obtain ⟨l, hlen, hls⟩ := list_of each
    subst hlen
    refine ⟨l, ⟨some a, m, rfl, hl, hm, fun i z hiz => ?_⟩, fun z hz => by
      obtain ⟨i, hi⟩ := List.getElem?_of_mem hz
      exact (hls i z hi).1⟩
    obtain ⟨_, tA, tc, oA, oc, q1, q2, q3⟩ := hls i z hiz
    refine ⟨a, tA, tc, oA, oc, rfl, ?_, q1, q2, q3⟩
    have hlen0 : 0 < l.length := Nat.lt_of_le_of_lt (Nat.zero_le _) (List.getElem?_eq_some_iff.1 hiz).1
    obtain ⟨p, hp1, hp2⟩ := row_mem (a := a) (n := m * 15) (by omega)
    rw [← hp2]
    exact hlt p (by rw [hps]; exact List.mem_append.2 (.inl hp1))
end
end Go.Proofs.YtmbonngjkgcijaaGreatDoor

namespace Go.Proofs.YtmbonngjkgcijaaGreatDoor
open Go.RowKit Go.Shelf
open Go.Maps (Keyed)
section
variable {P : Program} {w : World} {K E M : TypeId} {r clock : Nat} {L : List MapEntry}
theorem MapIs.del_miss (h : MapIs P K w r L clock) (KK : Keyed P K) (hM : P.underlying M = some (.map K E)) (ty : TypeId) {x : Value} {lx : Lit} (hx : keyOf P K x = some lx) (hn : ∀ e ∈ L, e.key ≠ x) :
    (Builtin.delete_ #[M, K] ty #[.map (some r), x]).run P w = .ok (.tuple #[]) { w with heap := w.heap.setIfInBounds r (.map L.toArray clock) } ∧
    MapIs P K { w with heap := w.heap.setIfInBounds r (.map L.toArray clock) } r L clock := by
  constructor
  · simp [Builtin.delete_, run_underlying hM, MapKept.run_getObj_map h.at_, KK.check w _ hx, h.find_miss KK hx hn, MapKept.run_setObj_map _ h.at_, Result.andThen]
  · exact ⟨by simp [h.lt], h.keys, h.one, h.born, h.apart⟩
end
theorem key_i {s : Int} (hs : -9223372036854775808 ≤ s ∧ s ≤ 9223372036854775807) : keyOf Tryz.prog 3 (.int .i64 s) = some (.int .i64 s) := by
  refine Go.Maps.keyOf_int_mk Tryz.underlying3 ?_
  have e1 : IntKind.i64.min = -9223372036854775808 := by decide
  have e2 : IntKind.i64.max = 9223372036854775807 := by decide
  simp [Lit.wf, e1, e2]
  omega
theorem keys_have {E : List MapEntry} {C : List Int} {s : Int} (h : E.map pairE = C.map pairC) (hs : s ∈ C) : ∃ (j : Nat) (e : MapEntry), E[j]? = some e ∧ e.key = .int .i64 s ∧ e.val = .agg #[] := by
  have h1 : pairC s ∈ E.map pairE := by rw [h]; exact List.mem_map_of_mem hs
  obtain ⟨e, he, hk⟩ := List.mem_map.1 h1
  obtain ⟨j, hj⟩ := List.getElem?_of_mem he
  exact ⟨j, e, hj, congrArg Prod.fst hk, congrArg Prod.snd hk⟩
theorem heap_set_touch (w : World) (r : Nat) (o : Obj) (hr : r < w.heap.size) : Touch (fun k => k = r) w { w with heap := w.heap.setIfInBounds r o } :=
  ⟨rfl, rfl, rfl, by simp, fun k hk hne => by simp [Array.getElem?_setIfInBounds, Ne.symm hne]⟩
section
variable {w : World} {b : Nat} {most : Int} {v : Value} {L : List Pk} {mp : Nat} {C : List MapEntry} {c : Nat} {ro : Nat → Nat}
set_option maxRecDepth 100000 in
set_option maxHeartbeats 4000000 in
theorem nparted_yes (h : NetAt w b most v L mp C c ro) {s : Int} (hs : -9223372036854775808 ≤ s ∧ s ≤ 9223372036854775807) {j : Nat} {e : MapEntry} (hj : C[j]? = some e) (he : e.key = .int .i64 s) (hu : e.val = .agg #[]) : Calls Tryz.prog 66 #[.pointer (some ⟨b, 0, none⟩), .int .i64 s] w fun e w' => e = .returned (.bool true) ∧ Below w.heap.size w w' := by
  have hc : w.cell? ⟨b, 2, none⟩ = some (.map (some mp)) := cell_of h.head 2
  have qL := h.map.look_hit (Go.Maps.int_keyed Tryz.underlying3) Tryz.underlying97 (key_i hs) hj he true
  simp only [if_true] at qL
  rw [hu] at qL
  clear h hj he hs hu
  go_enter Tryz.func66, Tryz.ntmps66
  go_wp2_with fail
  go_ret
  exact ⟨rfl, below_new _⟩
set_option maxRecDepth 100000 in
set_option maxHeartbeats 2000000 in
theorem nnamed_ok (h : NetAt w b most v L mp C c ro) {s : Int} (hs : 1 ≤ s ∧ s ≤ 3) : Calls Tryz.prog 76 #[.pointer (some ⟨b, 0, none⟩), .int .i64 s] w fun e w' => e = .returned .nilIface ∧ w' = w := by
  have HN := Lib.hid (nnone_any h.head)
  have HW := Lib.hid (nwin_ok hs.1 hs.2 w)
  have HIN := Lib.hid (fun W => in_nil ⟨#[115, 105, 116, 101]⟩ W)
  clear h hs
  go_enter Tryz.func76, Tryz.ntmps76
  go_wp2_with fail
  refine (HN.out).mono ?_
  rintro e w1 ⟨rfl, rfl⟩
  go_wp2_with fail
  refine (HW.out).mono ?_
  rintro e w2 ⟨rfl, rfl⟩
  go_wp2_with fail
  refine (HIN.out _).mono ?_
  rintro e w3 ⟨rfl, rfl⟩
  go_wp2_with fail
  go_ret
  exact ⟨rfl, rfl⟩
set_option maxRecDepth 100000 in
set_option maxHeartbeats 2000000 in
theorem nnamed_no (hG : Glob w) (h : NetAt w b most v L mp C c ro) {s : Int} (hs : ¬ (1 ≤ s ∧ s ≤ 3)) : Calls Tryz.prog 76 #[.pointer (some ⟨b, 0, none⟩), .int .i64 s] w fun e w' => ∃ t u, e = .returned (.iface t u) ∧ Hid (Calls Tryz.prog 48 #[.iface t u] w' fun e w2 => e = .returned (.int .i64 2) ∧ Below w'.heap.size w' w2) ∧ Below w.heap.size w w' := by
  have HN := Lib.hid (nnone_any h.head)
  have HW := Lib.hid (nwithin_no (w := w) hs)
  have HG := Lib.hid hG
  clear h hs hG
  go_enter Tryz.func76, Tryz.ntmps76
  go_wp2_with fail
  refine (HN.out).mono ?_
  rintro e w1 ⟨rfl, rfl⟩
  go_wp2_with fail
  refine (HW.out).mono ?_
  rintro e w2 ⟨v2, rfl, he⟩
  have HB2 := Lib.hid he.2.2
  have HIN := Lib.hid (in_code (HG.out.below he.2.2) ⟨#[115, 105, 116, 101]⟩ he)
  obtain ⟨⟨t2, u2, rfl⟩, _⟩ := he
  go_wp2_with fail
  refine (HIN.out).mono ?_
  rintro e w3 ⟨t, u, rfl, HC, hb3⟩
  have HB3 := Lib.hid (HB2.out.trans (hb3.mono HB2.out.size))
  clear hb3
  go_wp2_with fail
  go_ret
  exact ⟨t, u, rfl, HC, HB3.out⟩
/-- The net with another map. -/
theorem NetAt.reMap (h : NetAt w b most v L mp C c ro) {W : World} {C' : List MapEntry} {c' : Nat} (ht : Touch (fun k => k = mp) w W) (hm : MapIs Tryz.prog 3 W mp C' c') : NetAt W b most v L mp C' c' ro where
  head := (ht.block b (heap_lt h.head) (fun e => by have := h.rb; have := h.rm; rw [e] at *; omega)).trans h.head
  row := h.row.touch ht (fun g hg e => by have := h.rr g hg; have := h.rm; rw [e] at *; omega)
  pk := fun e he => (ht.block _ (heap_lt (h.pk e he)) (fun q => by have := (h.rp e he).1; have := h.rm; rw [q] at *; omega)).trans (h.pk e he)
  by_ := fun e he => (h.by_ e he).keep ht.size (ht.block _ (h.by_ e he).lt (fun q => by have := (h.rp e he).2; have := h.rm; rw [q] at *; omega))
  few := h.few
  map := hm
  rb := h.rb
  rm := h.rm
  rr := h.rr
  rp := h.rp
  lt := fun k hk => Nat.lt_of_lt_of_le (h.lt k hk) ht.size
  onep := h.onep
  oneg := h.oneg
end
end Go.Proofs.YtmbonngjkgcijaaGreatDoor

namespace Go.Proofs.YtmbonngjkgcijaaGreatDoor
open Go.RowKit Go.Shelf
section
variable {w : World} {b : Nat} {most : Int} {v : Value} {L : List Pk} {mp : Nat} {C : List MapEntry} {c : Nat} {ro : Nat → Nat}
set_option maxRecDepth 100000 in
set_option maxHeartbeats 2000000 in
theorem nDeliver_cut (hG : Glob w) (h : NetAt w b most v L mp C c ro) {i : Nat} {x : Pk} (hi : L[i]? = some x) (hw : x.waits = 0) (hsr : -9223372036854775808 ≤ x.site ∧ x.site ≤ 9223372036854775807) {q : Nat} {e0 : MapEntry} (hq : C[q]? = some e0) (he : e0.key = .int .i64 x.site) (hu : e0.val = .agg #[]) : Calls Tryz.prog 22 #[.pointer (some ⟨b, 0, none⟩), .int .i64 i] w fun e w' => e = .returned (.tuple #[zeroM, .int .i64 20]) ∧ Below w.heap.size w w' := by
  have HF := Lib.hid (fun W (hW : Below w.heap.size w W) => nfind_ok (h.below hW) hi)
  have HPA := Lib.hid (fun W (hW : Below w.heap.size w W) => nparted_yes (h.below hW) hsr hq he hu)
  have HE := Lib.hid (fun W => new_num 20 (by decide) W)
  have HAS := Lib.hid (fun W (hW : Below w.heap.size w W) => at_busy (hG.below hW) (i : Int))
  have HG := Lib.hid hG
  have hb0 := below_new (w := w) (.cells zeroC 50)
  have HB0 := Lib.hid hb0
  have HAT : Hid (∀ W, Below (w.alloc (.cells zeroC 50)).heap.size (w.alloc (.cells zeroC 50)) W → W.heap[w.heap.size]? = some (.cells zeroC 50 (0, 0))) := Lib.hid (fun W hW => (hW.block _ (by rw [asz]; exact Nat.lt_succ_self _)).trans (alloc_at _ _))
  have hpk := (h.below hb0).pk x (List.mem_of_getElem? hi)
  unfold Pk.cells at hpk
  have hc1 := cell_of hpk 1
  have hc := cell_of hpk 2
  rw [hw] at hc
  unfold Pk.ptr at HF
  simp at hc hc1
  clear h hi hG hb0 hpk hw hsr hq he hu
  go_enter Tryz.func22, Tryz.ntmps22
  go_wp2_with fail
  refine (HF.out _ HB0.out).mono ?_
  rintro e w1 ⟨rfl, rfl⟩
  go_wp2_with fail
  refine (HPA.out _ HB0.out).mono ?_
  rintro e wp ⟨rfl, hbp⟩
  have HBP := Lib.hid (And.intro hbp (HB0.out.trans (hbp.mono HB0.out.size)))
  clear hbp hc hc1
  go_wp2_with fail
  refine (HE.out _).mono ?_
  rintro e w2 ⟨rfl, rfl⟩
  go_wp2_with fail
  refine (HAS.out _ HBP.out.2).mono ?_
  rintro e w3 ⟨t, u, rfl, hcd, hb3⟩
  have hb3' : Below w.heap.size w w3 := HBP.out.2.trans (hb3.mono HBP.out.2.size)
  have hb3 : Below (w.alloc (.cells zeroC 50)).heap.size (w.alloc (.cells zeroC 50)) w3 := HBP.out.1.trans (hb3.mono HBP.out.1.size)
  have HC := Lib.hid hcd
  have HB3 := Lib.hid (And.intro hb3 hb3')
  clear hb3 hb3' hcd
  go_wp2_with fail
  refine (HC.out).mono ?_
  rintro e w4 ⟨rfl, hb4⟩
  have hat2 := HAT.out _ (HB3.out.1.trans (hb4.mono HB3.out.1.size))
  have HB4 := Lib.hid (HB3.out.2.trans (hb4.mono HB3.out.2.size))
  clear hb4
  have HZ5 := Lib.hid (setCells_at w.heap.size (zeroC).toList [] zeroC.toList w4 rfl hat2)
  have HT5 := Lib.hid (setCells_touch (S := fun k => k = w.heap.size) (a := w4) w.heap.size (fun _ => rfl) (zeroC).toList 0 w4 (Touch.refl _ _))
  have r0 := cell_of hat2 0; have r1 := cell_of hat2 1; have r2 := cell_of hat2 2; have r3 := cell_of hat2 3; have r4 := cell_of hat2 4; have r5 := cell_of hat2 5; have r6 := cell_of hat2 6; have r7 := cell_of hat2 7; have r8 := cell_of hat2 8; have r9 := cell_of hat2 9; have r10 := cell_of hat2 10
  simp at r0 r1 r2 r3 r4 r5 r6 r7 r8 r9 r10
  have f0 := free0 hat2 0; have f1 := free0 hat2 1; have f2 := free0 hat2 2; have f3 := free0 hat2 3; have f4 := free0 hat2 4; have f5 := free0 hat2 5; have f6 := free0 hat2 6; have f7 := free0 hat2 7; have f8 := free0 hat2 8; have f9 := free0 hat2 9; have f10 := free0 hat2 10
  clear hat2
  go_wp2_with fail
  change bodyPost _ _ _ _ _ (World.setCells _ w.heap.size 0 (zeroC).toList)
  simp only [List.length_nil, List.nil_append] at HZ5
  generalize World.setCells _ w.heap.size 0 (zeroC).toList = W5 at *
  clear r0 r1 r2 r3 r4 r5 r6 r7 r8 r9 r10 f0 f1 f2 f3 f4 f5 f6 f7 f8 f9 f10
  have j0 := cell_of HZ5.out 0; have j1 := cell_of HZ5.out 1; have j2 := cell_of HZ5.out 2; have j3 := cell_of HZ5.out 3; have j4 := cell_of HZ5.out 4; have j5 := cell_of HZ5.out 5; have j6 := cell_of HZ5.out 6; have j7 := cell_of HZ5.out 7; have j8 := cell_of HZ5.out 8; have j9 := cell_of HZ5.out 9; have j10 := cell_of HZ5.out 10
  simp at j0 j1 j2 j3 j4 j5 j6 j7 j8 j9 j10
  refine bodyPost_ret (v := .tuple #[zeroM, .int .i64 20]) (by simp [results, Tryz.results22, go_sem, j0, j1, j2, j3, j4, j5, j6, j7, j8, j9, j10]) rfl ?_
  exact ⟨rfl, HB4.out.trans (HT5.out.below (fun i e => by omega) HB4.out.size)⟩
set_option maxRecDepth 100000 in
set_option maxHeartbeats 4000000 in
theorem nsend_cut (hG : Glob w) (hMv : Mov w) (h : NetAt w b most v L mp C c ro) (hmost : most ≤ 1024) {v0 : Value} {m : MsgV} (hm : MsgIs w v0 m) (ha : mayM m = true) (hin : MsgIn m) (hsr : -9223372036854775808 ≤ siteM m ∧ siteM m ≤ 9223372036854775807) {q : Nat} {e0 : MapEntry} (hq : C[q]? = some e0) (he : e0.key = .int .i64 (siteM m)) (hu : e0.val = .agg #[]) :
    Calls Tryz.prog 56 #[.pointer (some ⟨b, 0, none⟩), v0] w fun e w' => e = .returned (.tuple #[]) ∧ Below w.heap.size w w' := by
  have HMS := Lib.hid (fun W (hW : Below w.heap.size w W) (hMv : Mov W) => Encode_yes (hG.below hW) hMv (hm.below hW) ha hin)
  have HMV := Lib.hid (fun W (hW : Below w.heap.size w W) => hMv.below hW)
  have HPA := Lib.hid (fun W (hW : Below w.heap.size w W) => nparted_yes (h.below hW) hsr hq he hu)
  have HEN := Lib.hid (encM_few ha hin)
  unfold siteM at HPA
  obtain ⟨tA, tc, oA, oc, rfl, ht, ho, hk⟩ := hm
  obtain ⟨kd, fr, tt, g, nd, tr, lw, co, ti, tl, os⟩ := m
  simp only at HMS HPA ht ho hk ⊢
  have hb0 := below_new (w := w) (.cells #[.int .i64 kd, .int .i64 fr, .int .i64 tt, .int .i64 g, .int .i64 nd, .int .i64 tr, .int .i64 lw, .int .i64 co, .int .i64 ti, .slice tA tl.length tc, .slice oA os.length oc] 50)
  have HB0 := Lib.hid hb0
  have HMV0 := Lib.hid (HMV.out _ hb0)
  have hat := alloc_at w (.cells #[.int .i64 kd, .int .i64 fr, .int .i64 tt, .int .i64 g, .int .i64 nd, .int .i64 tr, .int .i64 lw, .int .i64 co, .int .i64 ti, .slice tA tl.length tc, .slice oA os.length oc] 50)
  have m0 := cell_of hat 0; have m1 := cell_of hat 1; have m2 := cell_of hat 2; have m3 := cell_of hat 3; have m4 := cell_of hat 4; have m5 := cell_of hat 5; have m6 := cell_of hat 6; have m7 := cell_of hat 7; have m8 := cell_of hat 8; have m9 := cell_of hat 9; have m10 := cell_of hat 10
  simp at m0 m1 m2 m3 m4 m5 m6 m7 m8 m9 m10
  clear h hG ha ht ho hk hb0 hat hMv hsr hin hmost hq he hu
  go_enter Tryz.func56, Tryz.ntmps56
  go_wp2_with fail
  refine (HMS.out _ HB0.out HMV0.out).mono ?_
  rintro e w1 ⟨v1, rfl, ho1, hb1⟩
  have HB1 := Lib.hid (HB0.out.trans (hb1.mono HB0.out.size))
  obtain ⟨g1, cp1, rfl, hc1⟩ : ∃ g1 cp1, v1 = .slice (some ⟨g1, 0, none⟩) (encM ⟨kd, fr, tt, g, nd, tr, lw, co, ti, tl, os⟩).length cp1 ∧ OwnC w1 (w.alloc (.cells #[.int .i64 kd, .int .i64 fr, .int .i64 tt, .int .i64 g, .int .i64 nd, .int .i64 tr, .int .i64 lw, .int .i64 co, .int .i64 ti, .slice tA tl.length tc, .slice oA os.length oc] 50)).heap.size g1 cp1 (encM ⟨kd, fr, tt, g, nd, tr, lw, co, ti, tl, os⟩) := by
    rcases ho1 with ⟨_, e⟩ | h
    · exact (HEN.out.1 e).elim
    · exact h
  have HC1 := Lib.hid hc1
  clear ho1 hc1
  obtain ⟨n, hn⟩ : ∃ n, (encM ⟨kd, fr, tt, g, nd, tr, lw, co, ti, tl, os⟩).length = n := ⟨_, rfl⟩
  have HN := Lib.hid hn
  rw [hn]
  have hn0 : ¬ ((n : Int) = 0) := by
    have h1 := HEN.out.1
    intro e
    have e2 : n = 0 := by omega
    rw [e2] at hn
    exact h1 (List.eq_nil_of_length_eq_zero hn)
  clear hn
  go_wp2_with fail
  refine (HPA.out _ HB1.out).mono ?_
  rintro e w2 ⟨rfl, hb2⟩
  have HB2 := Lib.hid (HB1.out.trans (hb2.mono HB1.out.size))
  have HB12 := Lib.hid hb2
  clear hb2
  go_wp2_with fail
  refine bodyPost_ret (results_none rfl _ _ _) rfl ?_
  exact ⟨rfl, HB2.out⟩
/-- The map behind Part. -/
def PartE (C : List MapEntry) (c : Nat) (s : Int) (C' : List MapEntry) : Prop := (∃ (j : Nat) (e : MapEntry), C[j]? = some e ∧ e.key = .int .i64 s ∧ C' = C.set j { e with val := .agg #[] }) ∨ ((∀ e ∈ C, e.key ≠ .int .i64 s) ∧ C' = C ++ [⟨.int .i64 s, .agg #[], c⟩])
/-- The map behind Heal. -/
def HealE (C : List MapEntry) (s : Int) (C' : List MapEntry) : Prop := (∃ (j : Nat) (e : MapEntry), C[j]? = some e ∧ e.key = .int .i64 s ∧ C' = C.eraseIdx j) ∨ ((∀ e ∈ C, e.key ≠ .int .i64 s) ∧ C' = C)
def MapP (w : World) (b : Nat) (most : Int) (v : Value) (L : List Pk) (mp : Nat) (ro : Nat → Nat) (Q : List MapEntry → Prop) (w' : World) : Prop := ∃ C' c', NetAt w' b most v L mp C' c' ro ∧ Touch (fun k => k = mp) w w' ∧ Q C'
set_option maxRecDepth 100000 in
set_option maxHeartbeats 2000000 in
theorem nPart_ok (hG : Glob w) (h0 : ro 1 = 0) (h : NetAt w b most v L mp C c ro) {s : Int} (hs : 1 ≤ s ∧ s ≤ 3) : Calls Tryz.prog 32 #[.pointer (some ⟨b, 0, none⟩), .int .i64 s] w fun e w' => e = .returned (.int .i64 0) ∧ MapP w b most v L mp ro (PartE C c s) w' := by
  have HN := Lib.hid (nnamed_ok h hs)
  have hkey := key_i (s := s) (by omega)
  have hc : w.cell? ⟨b, 2, none⟩ = some (.map (some mp)) := cell_of h.head 2
  have HH := Lib.hid (And.intro h h.map.lt)
  have HCD : Hid (∀ W, Touch (fun k => k = mp) w W → Calls Tryz.prog 48 #[.nilIface] W fun e w' => e = .returned (.int .i64 0) ∧ Below W.heap.size W w') := Lib.hid (fun W hW => codeNil (hG.step h0 (Step.same (hW.mono (fun k _ e => e)) (fun k e => by rw [e, h.rm]; decide))))
  by_cases hin : ∃ (j : Nat) (e : MapEntry), C[j]? = some e ∧ e.key = .int .i64 s
  · obtain ⟨j, e, hj, he⟩ := hin
    have hmap := h.map
    have HJ := Lib.hid (And.intro hj he)
    clear h hG h0 hs
    go_enter Tryz.func32, Tryz.ntmps32
    go_wp2_with fail
    refine (HN.out).mono ?_
    rintro e1 w1 ⟨rfl, rfl⟩
    go_wp2_with (at_mapUpdate; refine wpList_put_hit _ rfl _ _ _ 97 rfl (Go.Maps.int_keyed Tryz.underlying3) Tryz.underlying97 hmap rfl _ _ rfl hkey _ rfl hj he ?_; intro w2 hw2 hM2; have HW2 := Lib.hid hw2; clear hw2)
    have hT : Touch (fun k => k = mp) w1 w2 := by rw [HW2.out]; exact heap_set_touch _ _ _ HH.out.2
    have HF : Hid (∀ W, Below w2.heap.size w2 W → MapP w1 b most v L mp ro (PartE C c s) W) := Lib.hid (fun W hW => ⟨_, _, (HH.out.1.reMap hT hM2).below hW, hT.trans (Touch.of_below hW) (fun _ _ e => e), .inl ⟨j, e, HJ.out.1, HJ.out.2, rfl⟩⟩)
    have HC := Lib.hid (HCD.out w2 hT)
    clear hT hM2 hmap hj he
    go_wp2_with fail
    refine (HC.out).mono ?_
    rintro e2 w3 ⟨rfl, hb3⟩
    have HR := Lib.hid (HF.out _ hb3)
    clear hb3
    go_wp2_with fail
    go_ret
    exact ⟨rfl, HR.out⟩
  · have hno : ∀ e ∈ C, e.key ≠ .int .i64 s := fun e he q => by
      obtain ⟨j, hj⟩ := List.getElem?_of_mem he
      exact hin ⟨j, e, hj, q⟩
    have hmap := h.map
    have HJ := Lib.hid hno
    clear h hG h0 hs hin
    go_enter Tryz.func32, Tryz.ntmps32
    go_wp2_with fail
    refine (HN.out).mono ?_
    rintro e1 w1 ⟨rfl, rfl⟩
    go_wp2_with (at_mapUpdate; refine wpList_put_miss _ rfl _ _ _ 97 rfl (Go.Maps.int_keyed Tryz.underlying3) Tryz.underlying97 hmap rfl _ _ rfl hkey _ rfl hno ?_; intro w2 hw2 hM2; have HW2 := Lib.hid hw2; clear hw2)
    have hT : Touch (fun k => k = mp) w1 w2 := by rw [HW2.out]; exact heap_set_touch _ _ _ HH.out.2
    have HF : Hid (∀ W, Below w2.heap.size w2 W → MapP w1 b most v L mp ro (PartE C c s) W) := Lib.hid (fun W hW => ⟨_, _, (HH.out.1.reMap hT hM2).below hW, hT.trans (Touch.of_below hW) (fun _ _ e => e), .inr ⟨HJ.out, rfl⟩⟩)
    have HC := Lib.hid (HCD.out w2 hT)
    clear hT hM2 hmap hno
    go_wp2_with fail
    refine (HC.out).mono ?_
    rintro e2 w3 ⟨rfl, hb3⟩
    have HR := Lib.hid (HF.out _ hb3)
    clear hb3
    go_wp2_with fail
    go_ret
    exact ⟨rfl, HR.out⟩
set_option maxRecDepth 100000 in
set_option maxHeartbeats 2000000 in
theorem nHeal_ok (hG : Glob w) (h0 : ro 1 = 0) (h : NetAt w b most v L mp C c ro) {s : Int} (hs : 1 ≤ s ∧ s ≤ 3) : Calls Tryz.prog 33 #[.pointer (some ⟨b, 0, none⟩), .int .i64 s] w fun e w' => e = .returned (.int .i64 0) ∧ MapP w b most v L mp ro (HealE C s) w' := by
  have HN := Lib.hid (nnamed_ok h hs)
  have hkey := key_i (s := s) (by omega)
  have hc : w.cell? ⟨b, 2, none⟩ = some (.map (some mp)) := cell_of h.head 2
  have HH := Lib.hid (And.intro h h.map.lt)
  have HCD : Hid (∀ W, Touch (fun k => k = mp) w W → Calls Tryz.prog 48 #[.nilIface] W fun e w' => e = .returned (.int .i64 0) ∧ Below W.heap.size W w') := Lib.hid (fun W hW => codeNil (hG.step h0 (Step.same (hW.mono (fun k _ e => e)) (fun k e => by rw [e, h.rm]; decide))))
  have hdel : ∃ C', HealE C s C' ∧ ∀ ty, (Builtin.delete_ #[97, 3] ty #[.map (some mp), .int .i64 s]).run Tryz.prog w = .ok (.tuple #[]) { w with heap := w.heap.setIfInBounds mp (.map C'.toArray c) } ∧ MapIs Tryz.prog 3 { w with heap := w.heap.setIfInBounds mp (.map C'.toArray c) } mp C' c := by
    by_cases hin : ∃ (j : Nat) (e : MapEntry), C[j]? = some e ∧ e.key = .int .i64 s
    · obtain ⟨j, e, hj, he⟩ := hin
      exact ⟨_, .inl ⟨j, e, hj, he, rfl⟩, fun ty => h.map.del_hit (Go.Maps.int_keyed Tryz.underlying3) Tryz.underlying97 ty hkey hj he⟩
    · have hno : ∀ e ∈ C, e.key ≠ .int .i64 s := fun e he q => by
        obtain ⟨j, hj⟩ := List.getElem?_of_mem he
        exact hin ⟨j, e, hj, q⟩
      exact ⟨C, .inr ⟨hno, rfl⟩, fun ty => h.map.del_miss (Go.Maps.int_keyed Tryz.underlying3) Tryz.underlying97 ty hkey hno⟩
  obtain ⟨C', hq, hdel⟩ := hdel
  obtain ⟨W2, hW2⟩ : ∃ W, W = ({ w with heap := w.heap.setIfInBounds mp (.map C'.toArray c) } : World) := ⟨_, rfl⟩
  have hT : Touch (fun k => k = mp) w W2 := by rw [hW2]; exact heap_set_touch _ _ _ HH.out.2
  have hM2 : MapIs Tryz.prog 3 W2 mp C' c := by rw [hW2]; exact (hdel 0).2
  have hd : ∀ ty, (Builtin.delete_ #[97, 3] ty #[.map (some mp), .int .i64 s]).run Tryz.prog w = .ok (.tuple #[]) W2 := fun ty => by rw [hW2]; exact (hdel ty).1
  have HF : Hid (∀ W, Below W2.heap.size W2 W → MapP w b most v L mp ro (HealE C s) W) := Lib.hid (fun W hW => ⟨_, _, (HH.out.1.reMap hT hM2).below hW, hT.trans (Touch.of_below hW) (fun _ _ e => e), hq⟩)
  have HC := Lib.hid (HCD.out W2 hT)
  clear h hG h0 hs hdel hW2 hT hM2 hq
  go_enter Tryz.func33, Tryz.ntmps33
  go_wp2_with fail
  refine (HN.out).mono ?_
  rintro e1 w1 ⟨rfl, rfl⟩
  go_wp2_with fail
  refine (HC.out).mono ?_
  rintro e2 w3 ⟨rfl, hb3⟩
  have HR := Lib.hid (HF.out _ hb3)
  clear hb3
  go_wp2_with fail
  go_ret
  exact ⟨rfl, HR.out⟩
set_option maxRecDepth 100000 in
set_option maxHeartbeats 2000000 in
theorem nPart_arg (hG : Glob w) (h : NetAt w b most v L mp C c ro) {s : Int} (hs : ¬ (1 ≤ s ∧ s ≤ 3)) : Calls Tryz.prog 32 #[.pointer (some ⟨b, 0, none⟩), .int .i64 s] w fun e w' => e = .returned (.int .i64 2) ∧ Below w.heap.size w w' := by
  have HN := Lib.hid (nnamed_no hG h hs)
  clear h hG hs
  go_enter Tryz.func32, Tryz.ntmps32
  go_wp2_with fail
  refine (HN.out).mono ?_
  rintro e1 w1 ⟨t, u, rfl, HC, hb⟩
  have HB := Lib.hid hb
  clear hb
  go_wp2_with fail
  refine (HC.out).mono ?_
  rintro e2 w2 ⟨rfl, hb2⟩
  have HB2 := Lib.hid (HB.out.trans (hb2.mono HB.out.size))
  clear hb2
  go_wp2_with fail
  go_ret
  exact ⟨rfl, HB2.out⟩
set_option maxRecDepth 100000 in
set_option maxHeartbeats 2000000 in
theorem nHeal_arg (hG : Glob w) (h : NetAt w b most v L mp C c ro) {s : Int} (hs : ¬ (1 ≤ s ∧ s ≤ 3)) : Calls Tryz.prog 33 #[.pointer (some ⟨b, 0, none⟩), .int .i64 s] w fun e w' => e = .returned (.int .i64 2) ∧ Below w.heap.size w w' := by
  have HN := Lib.hid (nnamed_no hG h hs)
  clear h hG hs
  go_enter Tryz.func33, Tryz.ntmps33
  go_wp2_with fail
  refine (HN.out).mono ?_
  rintro e1 w1 ⟨t, u, rfl, HC, hb⟩
  have HB := Lib.hid hb
  clear hb
  go_wp2_with fail
  refine (HC.out).mono ?_
  rintro e2 w2 ⟨rfl, hb2⟩
  have HB2 := Lib.hid (HB.out.trans (hb2.mono HB.out.size))
  clear hb2
  go_wp2_with fail
  go_ret
  exact ⟨rfl, HB2.out⟩
end
end Go.Proofs.YtmbonngjkgcijaaGreatDoor
