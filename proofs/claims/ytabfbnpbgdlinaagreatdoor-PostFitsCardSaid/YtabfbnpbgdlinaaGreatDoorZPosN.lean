/- The chapter's example. The law on a box that is not there. -/
import Derived.Test.YtabfbnpbgdlinaaGreatDoorZPosL
set_option linter.unusedSimpArgs false
set_option linter.unusedVariables false
set_option linter.unnecessarySimpa false
namespace Go.Proofs.YtabfbnpbgdlinaaGreatDoor
open Go.RowKit Go.Shelf

theorem due_one {w : World} {b mp : Nat} {ev : Int} {r : Rq} {c : Nat} {R : Nat → Prop} (h : BoxAt w b mp ev [r] c R) {now low : Int} (h0 : 0 ≤ now) (h1 : now ≤ 1099511627776) (h2 : 1 ≤ low) (h3 : low ≤ 1048577) (hlast : r.sent = true → 0 ≤ r.last ∧ r.last ≤ 1099511627776) {d : Bool} (hd : dueB ev now r = d) :
    Calls Tryz.prog 40 #[.pointer (some ⟨b, 0, none⟩), .int .i64 now, .int .i64 low] w fun e w' => ∃ (v : Value) (n : Nat) (l : List Value), e = .returned v ∧ n = (if d = true then 1 else 0) ∧ BoxAt w' b mp ev [if d = true then r.fired now else r] c R ∧ RowIs w' 11 v n l ∧ (∀ g, v.ownBlock = some g → w.heap.size ≤ g) ∧ (d = true → l[6]? = some (.int .i64 low)) ∧ Touch R w w' := by
  have hlast' : ∀ e ∈ [r], e.sent = true → 0 ≤ e.last ∧ e.last ≤ 1099511627776 := fun e he => by rw [List.mem_singleton.1 he]; exact hlast
  have hD := due_any (now := now) (low := low) h (by simp) h0 h1 h2 h3 hlast'
  refine hD.mono ?_
  rintro e w' ⟨v, outs, rfl, hb, hr, ho, hl, ⟨ns, hp, hm⟩, ht⟩
  have hns : ns = [r.m.g] := List.perm_singleton.1 (by simpa using hp)
  subst hns
  have hlen : outs.length = (if d = true then 1 else 0) := by
    have := congrArg List.length hm
    rw [List.length_map] at this
    rw [this]
    cases d <;> simp [hd]
  have hbx : BoxAt w' b mp ev [if d = true then r.fired now else r] c R := by
    rw [List.map_cons, List.map_nil, hd] at hb
    exact hb
  refine ⟨v, outs.length, outs.flatMap Ot.c, rfl, hlen, hbx, hr, ho, fun e => ?_, ht⟩
  rw [e] at hlen
  cases outs with
  | nil => simp at hlen
  | cons o t =>
    have := hl o (List.mem_cons_self ..)
    rw [← this]
    rfl
def exQ : MsgV := ⟨1, 0, 1, 7, 0, 1, 1, 0, 0, [], []⟩
theorem exQ_ask : askM exQ = true := by decide +kernel
theorem exQ_no : fitM exQ ⟨12, 1, 0, 7, 0, 2, 0, 25, 0, [], []⟩ = false := by decide +kernel
theorem exQ_yes : fitM exQ ⟨13, 1, 0, 7, 0, 0, 0, 0, 0, [], []⟩ = true := by decide +kernel
theorem exQ_is (w : World) : MsgIs w (.agg #[.int .i64 1, .int .i64 0, .int .i64 1, .int .i64 7, .int .i64 0, .int .i64 1, .int .i64 1, .int .i64 0, .int .i64 0, .slice none 0 0, .slice none 0 0]) exQ := ⟨none, 0, none, 0, rfl, NumsAt.nil _, OpsAt.nil _, fun o h => by cases h⟩
theorem put_first {L : List Rq} {n : Rq} (h : PutS [] n L) : L = [n] := by
  rcases h with ⟨j, x, h, _⟩ | ⟨_, h⟩
  · simp at h
  · exact h
theorem ansQ (k : Int) {v : Value} {w : World} (h : MsgIs w v (ansM exQ k)) : ∃ t, t = (if k = 11 ∨ k = 12 ∨ k = 14 then (1 : Int) else 0) ∧ ∃ tA tc oA oc, v = .agg #[.int .i64 k, .int .i64 1, .int .i64 0, .int .i64 7, .int .i64 0, .int .i64 t, .int .i64 0, .int .i64 0, .int .i64 0, .slice tA 0 tc, .slice oA 0 oc] ∧ (∀ W : World, NumsAt W (.slice tA 0 tc) []) ∧ ∀ W : World, OpsAt W (.slice oA 0 oc) [] := by
  obtain ⟨tA, tc, oA, oc, rfl, h1, h2, _⟩ := h
  exact ⟨_, rfl, tA, tc, oA, oc, rfl, nums_nil_any h1, ops_nil_any h2⟩
set_option maxRecDepth 100000 in
set_option maxHeartbeats 16000000 in
theorem pawake {w : World} (hG : Glob w) :
    Calls Tryz.prog 37 #[] w fun e w' => e = .returned (.bool true) ∧ Below w.heap.size w w' := by
  have HG := Lib.hid hG
  have HNE := Lib.hid (pnew_ok (w := w) (ev := 3) (by decide) (by decide))
  clear hG
  go_enter Tryz.func37, Tryz.ntmps37
  go_wp2_with fail
  refine (HNE.out).mono ?_
  rintro e w1 ⟨b, mp, rfl, hbox, hb, hmp, hb1⟩
  obtain ⟨W2, hW2⟩ : ∃ W, W = w1.alloc (.cells #[.int .i64 1, .int .i64 0, .int .i64 1, .int .i64 7, .int .i64 0, .int .i64 1, .int .i64 1, .int .i64 0, .int .i64 0, .slice none 0 0, .slice none 0 0] 50) := ⟨_, rfl⟩
  have hb2 : Below w1.heap.size w1 W2 := by rw [hW2]; exact below_new _
  have hq2 : W2.heap[w1.heap.size]? = some (.cells #[.int .i64 1, .int .i64 0, .int .i64 1, .int .i64 7, .int .i64 0, .int .i64 1, .int .i64 1, .int .i64 0, .int .i64 0, .slice none 0 0, .slice none 0 0] 50 (0, 0)) := by rw [hW2]; exact alloc_at _ _
  have hB2 := hb1.trans (hb2.mono hb1.size)
  have HPU := Lib.hid (put_ok (HG.out.below hB2) (hbox.below hb2) (exQ_is W2) exQ_ask (now := 0) (by decide) (by decide))
  have HB2 := Lib.hid hB2
  have HW2 := Lib.hid hW2
  have HQ2 := Lib.hid hq2
  have HBM := Lib.hid (And.intro hb (And.intro hmp hb1.size))
  have HZ := Lib.hid (And.intro (heap_lt hbox.head) hbox.map.lt)
  go_upto_region 5 with fail
  rw [← HW2.out]
  clear hbox hb hmp hb1 hb2 hB2 hW2 HNE
  have m0 := cell_of hq2 0
  have m1 := cell_of hq2 1
  have m2 := cell_of hq2 2
  have m3 := cell_of hq2 3
  have m4 := cell_of hq2 4
  have m5 := cell_of hq2 5
  have m6 := cell_of hq2 6
  have m7 := cell_of hq2 7
  have m8 := cell_of hq2 8
  have m9 := cell_of hq2 9
  have m10 := cell_of hq2 10
  simp at m0 m1 m2 m3 m4 m5 m6 m7 m8 m9 m10
  clear hq2
  go_wp2_with fail
  refine (HPU.out).mono ?_
  rintro e w3 ⟨rfl, L', c', n, hbox, hps, hnm, hns, hrb, ht3, _, _⟩
  obtain rfl := put_first hps
  have hS3 : w1.heap.size < n.rb ∧ mp < n.rb := by
    have h1 := heap_lt HQ2.out
    have h2 := HZ.out.2
    omega
  have hq3 : w3.heap[w1.heap.size]? = some (.cells #[.int .i64 1, .int .i64 0, .int .i64 1, .int .i64 7, .int .i64 0, .int .i64 1, .int .i64 1, .int .i64 0, .int .i64 0, .slice none 0 0, .slice none 0 0] 50 (0, 0)) := (ht3.block _ (heap_lt HQ2.out) (by have := HZ.out.2; omega)).trans HQ2.out
  have hB3 : Below w.heap.size w w3 := HB2.out.trans (ht3.below (fun i e => by rw [e]; exact HBM.out.2.1) HB2.out.size)
  have HDU := Lib.hid (due_one hbox (now := 0) (low := 2) (by decide) (by decide) (by decide) (by decide) (fun h => by rw [hns] at h; cases h) (d := true) (by simp [dueB, hns]))
  have HN := Lib.hid (And.intro hnm (And.intro hns hS3))
  have HL3 := Lib.hid (heap_lt (hbox.req n (by simp)))
  have HQ3 := Lib.hid hq3
  have HB3 := Lib.hid hB3
  clear hbox hps hnm hns hrb ht3 hS3 hq3 hB3 m0 m1 m2 m3 m4 m5 m6 m7 m8 m9 m10
  go_wp2_with fail
  refine (HDU.out).mono ?_
  rintro e w4 ⟨v4, n4, l4, rfl, hn4, hbox4, hr4, ho4, hl4, ht4⟩
  obtain rfl : n4 = 1 := by simpa using hn4
  simp only [if_true] at hbox4
  have HDU2 := Lib.hid (due_one hbox4 (now := 2) (low := 2) (by decide) (by decide) (by decide) (by decide) (fun _ => ⟨by show (0 : Int) ≤ 0; decide, by show (0 : Int) ≤ _; decide⟩) (d := false) (by simp [dueB, Rq.fired]))
  have HT4 := Lib.hid ht4
  have HR4 := Lib.hid (And.intro hr4 (And.intro ho4 (hl4 (by first | trivial | rfl))))
  obtain ⟨A4, c4, rfl, _⟩ := id hr4.form
  clear hn4 hbox4 hr4 ho4 hl4 ht4 HDU
  go_wp2_with fail
  refine (HDU2.out).mono ?_
  rintro e w5 ⟨v5, n5, l5, rfl, hn5, hbox5, hr5, ho5, hl5, ht5⟩
  obtain rfl : n5 = 0 := by simpa using hn5
  simp only [Bool.false_eq_true, if_false] at hbox5
  have HDU3 := Lib.hid (due_one hbox5 (now := 3) (low := 2) (by decide) (by decide) (by decide) (by decide) (fun _ => ⟨by show (0 : Int) ≤ 0; decide, by show (0 : Int) ≤ _; decide⟩) (d := true) (by simp [dueB, Rq.fired]))
  have HT5 := Lib.hid (HT4.out.trans ht5 (fun _ _ e => e))
  have HS5 := Lib.hid ht5
  obtain ⟨A5, c5, rfl, _⟩ := id hr5.form
  clear hn5 hbox5 hr5 ho5 hl5 ht5 HDU2
  go_wp2_with fail
  refine (HDU3.out).mono ?_
  rintro e w6 ⟨v6, n6, l6, rfl, hn6, hbox6, hr6, ho6, hl6, ht6⟩
  obtain rfl : n6 = 1 := by simpa using hn6
  simp only [if_true] at hbox6
  obtain ⟨A6, c6, rfl, _⟩ := id hr6.form
  have hT6 := HT5.out.trans ht6 (fun _ _ e => e)
  have hRof : ∀ k, (False ∨ k = n.rb) → k = n.rb := fun k h => h.elim False.elim id
  have hB6 : Below w.heap.size w w6 := HB3.out.trans (hT6.below (fun i e => by rw [hRof i e]; have := HN.out.2.2.1; have := HBM.out.2.2; omega) HB3.out.size)
  have hq6 : w6.heap[w1.heap.size]? = some (.cells #[.int .i64 1, .int .i64 0, .int .i64 1, .int .i64 7, .int .i64 0, .int .i64 1, .int .i64 1, .int .i64 0, .int .i64 0, .slice none 0 0, .slice none 0 0] 50 (0, 0)) := (hT6.block _ (heap_lt HQ3.out) (fun e => by have := hRof _ e; have := HN.out.2.2.1; omega)).trans HQ3.out
  have hx6 : RowIs w6 11 (.slice A4 1 c4) 1 l4 := HR4.out.1.touch (HS5.out.trans ht6 (fun _ _ e => e)) (fun g hg e => by have := hRof _ e; have := HR4.out.2.1 g hg; have := HL3.out; omega)
  have HB6 := Lib.hid hB6
  have HQ6 := Lib.hid hq6
  have HX6 := Lib.hid hx6
  have HBX6 := Lib.hid hbox6
  have HAN := Lib.hid (Answer_any (exQ_is w6) 12)
  have m0 := cell_of hq6 0
  have m1 := cell_of hq6 1
  have m2 := cell_of hq6 2
  have m3 := cell_of hq6 3
  have m4 := cell_of hq6 4
  have m5 := cell_of hq6 5
  have m6 := cell_of hq6 6
  have m7 := cell_of hq6 7
  have m8 := cell_of hq6 8
  have m9 := cell_of hq6 9
  have m10 := cell_of hq6 10
  simp at m0 m1 m2 m3 m4 m5 m6 m7 m8 m9 m10
  clear hn6 hbox6 hr6 ho6 hl6 ht6 hT6 hB6 hq6 hx6 HDU3
  go_wp2_with fail
  refine (HAN.out).mono ?_
  rintro e w7 ⟨v7, rfl, ha7, hb7⟩
  obtain ⟨t7, ht7, tA, tc, oA, oc, rfl, hn7, ho7⟩ := ansQ 12 ha7
  obtain rfl : t7 = 1 := by simpa using ht7
  obtain ⟨W8, hW8⟩ : ∃ W, W = w7.alloc (.cells #[.int .i64 12, .int .i64 1, .int .i64 0, .int .i64 7, .int .i64 0, .int .i64 2, .int .i64 0, .int .i64 25, .int .i64 0, .slice tA 0 tc, .slice oA 0 oc] 50) := ⟨_, rfl⟩
  have hb8 : Below w7.heap.size w7 W8 := by rw [hW8]; exact below_new _
  have hb68 : Below w6.heap.size w6 W8 := hb7.trans (hb8.mono hb7.size)
  have h88 : W8.heap[w7.heap.size]? = some (.cells #[.int .i64 12, .int .i64 1, .int .i64 0, .int .i64 7, .int .i64 0, .int .i64 2, .int .i64 0, .int .i64 25, .int .i64 0, .slice tA 0 tc, .slice oA 0 oc] 50 (0, 0)) := by rw [hW8]; exact alloc_at _ _
  have hM8 : MsgIs W8 (.agg #[.int .i64 12, .int .i64 1, .int .i64 0, .int .i64 7, .int .i64 0, .int .i64 2, .int .i64 0, .int .i64 25, .int .i64 0, .slice tA 0 tc, .slice oA 0 oc]) ⟨12, 1, 0, 7, 0, 2, 0, 25, 0, [], []⟩ := ⟨tA, tc, oA, oc, rfl, hn7 _, ho7 _, fun o h => by cases h⟩
  have HFT := Lib.hid (fits_hit ((HG.out.below HB6.out).below hb68) (HBX6.out.below hb68) (j := 0) rfl hM8 (by show n.m.g = 7; rw [HN.out.1]; rfl))
  rw [show ((n.fired 0).fired 3).m = exQ from HN.out.1, exQ_no] at HFT
  have HB8 := Lib.hid (HB6.out.trans (hb68.mono HB6.out.size))
  have HS8 := Lib.hid hb68
  have HW8 := Lib.hid hW8
  clear ha7 ht7 hn7 ho7 hb8 hb68 hM8 hb7 hW8 HAN m0 m1 m2 m3 m4 m5 m6 m7 m8 m9 m10
  go_upto_region 9 with fail
  rw [← HW8.out]
  have m0 := cell_of h88 0
  have m1 := cell_of h88 1
  have m2 := cell_of h88 2
  have m3 := cell_of h88 3
  have m4 := cell_of h88 4
  have m5 := cell_of h88 5
  have m6 := cell_of h88 6
  have m7 := cell_of h88 7
  have m8 := cell_of h88 8
  have m9 := cell_of h88 9
  have m10 := cell_of h88 10
  simp at m0 m1 m2 m3 m4 m5 m6 m7 m8 m9 m10
  clear h88
  go_wp2_with fail
  refine (HFT.out).mono ?_
  rintro e w9 ⟨v9, rfl, _, hz9, hb9⟩
  obtain rfl := hz9 rfl
  obtain ⟨Wa, hWa⟩ : ∃ W, W = w9.alloc (.cells zeroC 50) := ⟨_, rfl⟩
  have hba : Below w9.heap.size w9 Wa := by rw [hWa]; exact below_new _
  have hb8a : Below W8.heap.size W8 Wa := hb9.trans (hba.mono hb9.size)
  have hb6a : Below w6.heap.size w6 Wa := HS8.out.trans (hb8a.mono HS8.out.size)
  have hqa := (hb6a.block _ (heap_lt HQ6.out)).trans HQ6.out
  have HAN := Lib.hid (Answer_any (exQ_is Wa) 13)
  have HS := Lib.hid hb6a
  have HBa := Lib.hid (HB6.out.trans (hb6a.mono HB6.out.size))
  have HWa := Lib.hid hWa
  clear hz9 hb9 hba hb8a hb6a hWa HFT m0 m1 m2 m3 m4 m5 m6 m7 m8 m9 m10
  go_upto_region 10 with fail
  rw [← HWa.out]
  have m0 := cell_of hqa 0
  have m1 := cell_of hqa 1
  have m2 := cell_of hqa 2
  have m3 := cell_of hqa 3
  have m4 := cell_of hqa 4
  have m5 := cell_of hqa 5
  have m6 := cell_of hqa 6
  have m7 := cell_of hqa 7
  have m8 := cell_of hqa 8
  have m9 := cell_of hqa 9
  have m10 := cell_of hqa 10
  simp at m0 m1 m2 m3 m4 m5 m6 m7 m8 m9 m10
  clear hqa
  go_wp2_with fail
  refine (HAN.out).mono ?_
  rintro e wb ⟨vb, rfl, hab, hbb⟩
  obtain ⟨tb, htb, tB, td, oB, od, rfl, hnb, hob⟩ := ansQ 13 hab
  obtain rfl : tb = 0 := by simpa using htb
  have hb6b : Below w6.heap.size w6 wb := HS.out.trans (hbb.mono HS.out.size)
  have hMb : MsgIs wb (.agg #[.int .i64 13, .int .i64 1, .int .i64 0, .int .i64 7, .int .i64 0, .int .i64 0, .int .i64 0, .int .i64 0, .int .i64 0, .slice tB 0 td, .slice oB 0 od]) ⟨13, 1, 0, 7, 0, 0, 0, 0, 0, [], []⟩ := ⟨tB, td, oB, od, rfl, hnb _, hob _, fun o h => by cases h⟩
  have HFT := Lib.hid (fits_hit ((HG.out.below HB6.out).below hb6b) (HBX6.out.below hb6b) (j := 0) rfl hMb (by show n.m.g = 7; rw [HN.out.1]; rfl))
  rw [show ((n.fired 0).fired 3).m = exQ from HN.out.1, exQ_yes] at HFT
  have HSb := Lib.hid hb6b
  have HBb := Lib.hid (HB6.out.trans (hb6b.mono HB6.out.size))
  clear hab htb hnb hob hbb hb6b hMb HAN m0 m1 m2 m3 m4 m5 m6 m7 m8 m9 m10
  go_wp2_with fail
  refine (HFT.out).mono ?_
  rintro e wc ⟨vc, rfl, hmc, _, hbc⟩
  obtain ⟨tC, te, oC, oe, rfl, _⟩ := hmc rfl
  have hb6c : Below w6.heap.size w6 wc := HSb.out.trans (hbc.mono HSb.out.size)
  have hbd := below_new (w := wc) (.cells #[.int .i64 1, .int .i64 0, .int .i64 1, .int .i64 7, .int .i64 0, .int .i64 1, .int .i64 1, .int .i64 0, .int .i64 0, .slice tC 0 te, .slice oC 0 oe] 50)
  have hxd := (HX6.out.below hb6c).below hbd
  have HBd := Lib.hid ((HBb.out.trans (hbc.mono HBb.out.size)).trans (hbd.mono (Nat.le_trans HBb.out.size hbc.size)))
  obtain ⟨g4, u4, rfl, hl4, _, _, _⟩ : ∃ g u, A4 = some ⟨g, 0, none⟩ ∧ (wc.alloc (.cells #[.int .i64 1, .int .i64 0, .int .i64 1, .int .i64 7, .int .i64 0, .int .i64 1, .int .i64 1, .int .i64 0, .int .i64 0, .slice tC 0 te, .slice oC 0 oe] 50)).cell? ⟨g, 6, none⟩ = some (.int .i64 2) ∧ u = 0 ∧ True ∧ True := by
    obtain ⟨A, c, e, _, _, _, _, h5⟩ := hxd.form
    obtain ⟨g, hA, hc⟩ := h5 6 _ HR4.out.2.2
    injection e with e
    exact ⟨g, (0 : Nat), e.trans hA, hc, rfl, trivial, trivial⟩
  clear hmc hbc hb6c hbd hxd HFT
  go_upto_region 11 with fail
  simp only [exQ, List.length_nil]
  go_wp2_with fail
  go_ret
  exact ⟨rfl, HBd.out⟩
end Go.Proofs.YtabfbnpbgdlinaaGreatDoor

namespace Go.Proofs.YtabfbnpbgdlinaaGreatDoor
open Go.RowKit Go.Shelf

set_option maxRecDepth 100000 in
set_option maxHeartbeats 8000000 in
theorem law_pnil {w : World} (hG : Glob w) {v : Value} {m : MsgV} (h : MsgAt w v m) (g now : Int) :
    Calls Tryz.prog 9 #[v, .int .i64 g, .int .i64 now] w fun e w' => e = .returned (.bool true) ∧ Below w.heap.size w w' := by
  have HC := Lib.hid (fun W (hW : Below w.heap.size w W) => lawcut_any (h.below hW))
  have HO := Lib.hid (fun (W : World) (x : Value) (hx : MsgIs W x (cutM m)) => ours_any hx)
  have HFT := Lib.hid (fun (W : World) (x : Value) (hx : MsgIs W x (cutM m)) => fits_nil hx)
  have HPU := Lib.hid (fun (W : World) (x : Value) (hx : MsgIs W x (cutM m)) => put_nil hx now)
  have HGT := Lib.hid (fun W => get_nil (w := W) g)
  have HDO := Lib.hid (fun W => done_nil (w := W) g)
  have HDU := Lib.hid (fun W => due_nil (w := W) now g)
  have HOP := Lib.hid (fun W => open_nil W)
  have HAW := Lib.hid (fun W (hW : Below w.heap.size w W) => pawake (hG.below hW))
  obtain ⟨tA, tc, oA, oc, rfl, _⟩ := h
  obtain ⟨W1, hW1⟩ : ∃ W, W = w.alloc (.cells (cellM m tA tc oA oc) 37) := ⟨_, rfl⟩
  have hb1 : Below w.heap.size w W1 := by rw [hW1]; exact below_new _
  have hat : W1.heap[w.heap.size]? = some (.cells (cellM m tA tc oA oc) 37 (0, 0)) := by rw [hW1]; exact alloc_at _ _
  have HAT : Hid (∀ W, Below W1.heap.size W1 W → W.heap[w.heap.size]? = some (.cells (cellM m tA tc oA oc) 37 (0, 0))) := Lib.hid (fun W hW => (hW.block _ (heap_lt hat)).trans hat)
  have HB1 := Lib.hid hb1
  have HW1 := Lib.hid hW1
  have m0 := cell_of hat 0
  have m1 := cell_of hat 1
  have m2 := cell_of hat 2
  have m3 := cell_of hat 3
  have m4 := cell_of hat 4
  have m5 := cell_of hat 5
  have m6 := cell_of hat 6
  have m7 := cell_of hat 7
  have m8 := cell_of hat 8
  have m9 := cell_of hat 9
  have m10 := cell_of hat 10
  simp at m0 m1 m2 m3 m4 m5 m6 m7 m8 m9 m10
  clear hG hb1 hat hW1
  go_enter Tryz.func9, Tryz.ntmps9
  go_upto_region 2 with fail
  rw [← HW1.out]
  go_wp2_with fail
  refine (HC.out _ HB1.out).mono ?_
  rintro e w2 ⟨x2, rfl, hx2, hb2⟩
  have HX2 := Lib.hid hx2
  have HS2 := Lib.hid hb2
  clear hb2 hx2 m0 m1 m2 m3 m4 m5 m6 m7 m8 m9 m10
  go_wp2_with fail
  refine (HO.out _ _ HX2.out).mono ?_
  rintro e w3 ⟨rfl, hb3⟩
  have HX3 := Lib.hid (HX2.out.below hb3)
  have HS3 := Lib.hid (HS2.out.trans (hb3.mono HS2.out.size))
  clear hb3
  go_wp2_with fail
  refine (HFT.out _ _ HX3.out).mono ?_
  rintro e w4 ⟨rfl, hb4⟩
  have hS4 := HS3.out.trans (hb4.mono HS3.out.size)
  obtain ⟨W5, hW5⟩ : ∃ W, W = w4.alloc (.cells zeroC 50) := ⟨_, rfl⟩
  have hb5 : Below w4.heap.size w4 W5 := by rw [hW5]; exact below_new _
  have HS5 := Lib.hid (hS4.trans (hb5.mono hS4.size))
  have HW5 := Lib.hid hW5
  clear hb4 hb5 hS4 hW5
  go_upto_region 3 with fail
  rw [← HW5.out]
  go_wp2_with fail
  refine (HGT.out _).mono ?_
  rintro e w6 ⟨rfl, hb6⟩
  obtain ⟨W7, hW7⟩ : ∃ W, W = w6.alloc (.cells zeroC 50) := ⟨_, rfl⟩
  have hb7 : Below w6.heap.size w6 W7 := by rw [hW7]; exact below_new _
  have hS6 := HS5.out.trans (hb6.mono HS5.out.size)
  have hS7 := hS6.trans (hb7.mono hS6.size)
  have hat7 := HAT.out _ hS7
  have HS7 := Lib.hid hS7
  have HB7 := Lib.hid (HB1.out.trans (hS7.mono HB1.out.size))
  have HW7 := Lib.hid hW7
  have m0 := cell_of hat7 0
  have m1 := cell_of hat7 1
  have m2 := cell_of hat7 2
  have m3 := cell_of hat7 3
  have m4 := cell_of hat7 4
  have m5 := cell_of hat7 5
  have m6 := cell_of hat7 6
  have m7 := cell_of hat7 7
  have m8 := cell_of hat7 8
  have m9 := cell_of hat7 9
  have m10 := cell_of hat7 10
  simp at m0 m1 m2 m3 m4 m5 m6 m7 m8 m9 m10
  clear hb6 hb7 hS6 hS7 hat7 hW7
  go_upto_region 4 with fail
  rw [← HW7.out]
  go_wp2_with fail
  refine (HC.out _ HB7.out).mono ?_
  rintro e w8 ⟨x8, rfl, hx8, hb8⟩
  have HX8 := Lib.hid hx8
  have HB8 := Lib.hid (HB7.out.trans (hb8.mono HB7.out.size))
  clear hb8 hx8 m0 m1 m2 m3 m4 m5 m6 m7 m8 m9 m10
  go_wp2_with fail
  refine (HO.out _ _ HX8.out).mono ?_
  rintro e w9 ⟨rfl, hb9⟩
  have HX9 := Lib.hid (HX8.out.below hb9)
  have HB9 := Lib.hid (HB8.out.trans (hb9.mono HB8.out.size))
  clear hb9
  go_wp2_with fail
  refine (HPU.out _ _ HX9.out).mono ?_
  rintro e wa ⟨rfl, hba⟩
  have HBa := Lib.hid (HB9.out.trans (hba.mono HB9.out.size))
  clear hba
  go_wp2_with fail
  refine (HDO.out _).mono ?_
  rintro e wb ⟨rfl, hbb⟩
  have HBb := Lib.hid (HBa.out.trans (hbb.mono HBa.out.size))
  clear hbb
  go_wp2_with fail
  refine (HDU.out _).mono ?_
  rintro e wc ⟨rfl, hbc⟩
  have HBc := Lib.hid (HBb.out.trans (hbc.mono HBb.out.size))
  clear hbc
  go_wp2_with fail
  refine (HOP.out _).mono ?_
  rintro e wd ⟨rfl, rfl⟩
  go_wp2_with fail
  refine (HAW.out _ HBc.out).mono ?_
  rintro e we ⟨rfl, hbe⟩
  have HBe := Lib.hid (HBc.out.trans (hbe.mono HBc.out.size))
  clear hbe
  go_wp2_with fail
  go_ret
  exact ⟨rfl, HBe.out⟩
end Go.Proofs.YtabfbnpbgdlinaaGreatDoor
