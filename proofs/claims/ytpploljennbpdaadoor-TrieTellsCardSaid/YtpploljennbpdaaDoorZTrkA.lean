/- trie, the document's own tree in memory: Find, There, Up. -/
import Derived.Test.YtpploljennbpdaaDoorZTrjE
set_option linter.unusedSimpArgs false
set_option linter.unusedVariables false
set_option linter.unnecessarySimpa false
namespace Go.Proofs.YtpploljennbpdaaDoor
open Go.RowKit Go.Shelf

/-- The document's own tree: a row of the beginnings. -/
structure RTr (w : World) (v : Value) (P : List Pth) : Prop where
  row : PsIs w v P
  tree : TreeP P
  few : P.length ≤ 900
theorem RTr.below {w w' : World} {v : Value} {P : List Pth} (h : RTr w v P) (hb : Below w.heap.size w w') : RTr w' v P := ⟨h.row.below hb, h.tree, h.few⟩
theorem RTr.len {w : World} {v : Value} {P : List Pth} (h : RTr w v P) {i : Nat} {p : Pth} (hi : P[i]? = some p) : p.length ≤ 8 := h.tree.len hi
def findI (P : List Pth) (p : Pth) : Int := if p ∈ P then (idxP P p : Int) else -1
theorem idx_firstP {P : List Pth} {p : Pth} {k : Nat} (hx : P[k]? = some p) (hno : p ∉ P.take k) : idxP P p = k := by
  have hkl := (List.getElem?_eq_some_iff.1 hx).1
  unfold idxP
  rw [← List.take_append_drop k P, List.idxOf_append, if_neg hno, List.length_take, Nat.min_eq_left (Nat.le_of_lt hkl)]
  have hd : P.drop k = p :: P.drop (k + 1) := by
    rw [List.drop_eq_getElem_cons hkl]
    congr 1
    exact (List.getElem?_eq_some_iff.1 hx).2
  rw [hd, List.idxOf_cons_self]
  omega
set_option maxRecDepth 100000 in
set_option maxHeartbeats 2000000 in
theorem Find_any {w : World} {v u : Value} {P : List Pth} {p : Pth} (h : RTr w v P) (hu : SIs w u p) (hp : p.length ≤ 1000) : Calls Tryd.prog 29 #[.agg #[v], u] w fun e w' => e = .returned (.int .i64 (findI P p)) ∧ Below w.heap.size w w' := by
  obtain ⟨A, cap, rfl, h1, h2⟩ := h.row.form
  unfold maxLen at h2
  have hPI : (P.length : Int) ≤ 900 := by have := h.few; omega
  have HB0 := Lib.hid (below_new (w := w) (.cells #[.slice A P.length cap] 32))
  have HH := Lib.hid h
  have HU := Lib.hid hu
  obtain ⟨w1, hw1⟩ : ∃ w1, w1 = w.alloc (.cells #[.slice A P.length cap] 32) := ⟨_, rfl⟩
  rw [← hw1] at HB0
  have HW1 := Lib.hid hw1
  clear h hu hw1
  go_enter Tryd.func29, Tryd.ntmps29
  go_wp2_with fail
  rw [← HW1.out]
  go_loopw [10] (fun iv wr => ∃ k : Nat, k ≤ P.length ∧ iv = .int .i64 k ∧ Below w.heap.size w wr ∧ p ∉ P.take k) (fun iv _ => P.length - (intOf iv).toNat)
  case atStart => exact ⟨0, Nat.zero_le _, rfl, HB0.out, by simp⟩
  case round =>
    obtain ⟨k, hk, rfl, hbw, hno⟩ := hrel
    have HB := Lib.hid hbw
    by_cases hlt : k < P.length
    · have hx : P[k]? = some P[k] := List.getElem?_eq_getElem hlt
      have HTK : Hid (P.take (k + 1) = P.take k ++ [P[k]]) := Lib.hid (List.take_succ_eq_append_getElem hlt)
      generalize P[k] = q at hx HTK
      obtain ⟨a, qv, rfl, _, kc, hq⟩ := (HH.out.row.below hbw).at hx
      have HS := Lib.hid (same_any (HU.out.below hbw) hq (by omega) (by have := HH.out.len hx; omega))
      have hi : (k : Int) < (P.length : Int) := by omega
      have HLT := Lib.hid hlt
      by_cases he : p = q
      · subst he
        have hs : sameB p p = true := decide_eq_true rfl
        rw [hs] at HS
        have HE : Hid (findI P p = (k : Int)) := Lib.hid (by unfold findI; rw [if_pos (List.mem_of_getElem? hx), idx_firstP hx hno])
        clear hx hno hk hlt hbw hq hs
        go_wp2_with fail
        refine (HS.out).mono ?_
        rintro e w2 ⟨rfl, hb2⟩
        have HB2 := Lib.hid (HB.out.trans (hb2.mono HB.out.size))
        clear hb2
        go_wp2_with fail
        refine bodyPost_ret (v := .int .i64 k) (by simp [results, Tryd.results29, go_sem]) rfl ⟨by rw [HE.out], HB2.out⟩
      · have hs : sameB p q = false := decide_eq_false he
        rw [hs] at HS
        have HN : Hid (p ∉ P.take (k + 1)) := Lib.hid (by rw [HTK.out, List.mem_append, List.mem_singleton]; exact fun h => h.elim hno he)
        clear hx hno hk hlt hbw hq hs he
        go_wp2_with fail
        refine (HS.out).mono ?_
        rintro e w2 ⟨rfl, hb2⟩
        have HB2 := Lib.hid (HB.out.trans (hb2.mono HB.out.size))
        clear hb2
        go_wp2_with fail
        go_roundw
        case rel => exact ⟨k + 1, HLT.out, by go_num, HB2.out, HN.out⟩
        case measure => have := HLT.out; simp [intOf]; omega
    · obtain rfl : k = P.length := by omega
      have HE : Hid (findI P p = -1) := Lib.hid (by have := hno; rw [List.take_length] at this; unfold findI; rw [if_neg this])
      have hn : ¬ (P.length : Int) < (P.length : Int) := by omega
      clear hlt hk hno hbw
      go_wp2_with fail
      refine bodyPost_ret (v := .int .i64 (-1)) (by simp [results, Tryd.results29, go_sem]) rfl ⟨by rw [HE.out], HB.out⟩
set_option maxRecDepth 100000 in
set_option maxHeartbeats 2000000 in
theorem There_any {w : World} {A : Option Addr} {P : List Pth} {cap : Nat} (m : Int) (hn : P.length ≤ 1000) : Calls Tryd.prog 11 #[.agg #[.slice A P.length cap], .int .i64 m] w fun e w' => e = .returned (.bool (inI P m)) ∧ Below w.heap.size w w' := by
  have HB := Lib.hid (below_new (w := w) (.cells #[.slice A P.length cap] 32))
  have hnI : (P.length : Int) ≤ 1000 := by omega
  unfold inI
  by_cases h0 : 0 ≤ m
  · obtain ⟨q, hq⟩ : ∃ q : Bool, decide (m < (P.length : Int)) = q := ⟨_, rfl⟩
    have HQ : Hid (decide (0 ≤ m ∧ m < (P.length : Int)) = q) := Lib.hid (by rw [← hq]; simp [h0])
    have h1 : decide (0 ≤ m) = true := decide_eq_true h0
    go_enter Tryd.func11, Tryd.ntmps11
    go_wp2_with fail
    refine bodyPost_ret (v := .bool q) (by simp [results, Tryd.results11, go_sem]) rfl ⟨by rw [HQ.out], HB.out⟩
  · have HQ : Hid (decide (0 ≤ m ∧ m < (P.length : Int)) = false) := Lib.hid (decide_eq_false (fun e => h0 e.1))
    have h1 : decide (0 ≤ m) = false := decide_eq_false h0
    go_enter Tryd.func11, Tryd.ntmps11
    go_wp2_with fail
    refine bodyPost_ret (v := .bool false) (by simp [results, Tryd.results11, go_sem]) rfl ⟨by first | rw [HQ.out] | rfl, HB.out⟩
theorem up_find {P : List Pth} (hT : TreeP P) {n : Nat} {p : Pth} (hn : P[n]? = some p) (h0 : 0 < n) : findI P p.dropLast = upP P n := by
  obtain ⟨j, _, hj⟩ := hT.up n p hn h0
  unfold findI
  rw [if_pos (List.mem_of_getElem? hj), up_at hn h0]
set_option maxRecDepth 100000 in
set_option maxHeartbeats 4000000 in
theorem RUp_any {w : World} {v : Value} {P : List Pth} {n : Nat} {p : Pth} (h : RTr w v P) (hn : P[n]? = some p) : Calls Tryd.prog 31 #[.agg #[v], .int .i64 (n : Int)] w fun e w' => e = .returned (.int .i64 (upP P n)) ∧ Below w.heap.size w w' := by
  obtain ⟨A, cap, rfl, h1, h2⟩ := h.row.form
  unfold maxLen at h2
  have hPI : (P.length : Int) ≤ 900 := by have := h.few; omega
  have hb0 := below_new (w := w) (.cells #[.slice A P.length cap] 32)
  have hbx := alloc_at w (.cells #[.slice A P.length cap] 32)
  obtain ⟨w1, hw1⟩ : ∃ w1, w1 = w.alloc (.cells #[.slice A P.length cap] 32) := ⟨_, rfl⟩
  rw [← hw1] at hb0 hbx
  have HW1 := Lib.hid hw1
  have HB0 := Lib.hid hb0
  by_cases h0 : n = 0
  · subst h0
    have HU : Hid (upP P 0 = -1) := Lib.hid up_root
    clear h hn hb0 hbx hw1
    go_enter Tryd.func31, Tryd.ntmps31
    go_wp2_with fail
    rw [← HW1.out]
    refine bodyPost_ret (v := .int .i64 (-1)) (by simp [results, Tryd.results31, go_sem]) rfl ⟨by rw [HU.out], HB0.out⟩
  · have hpos : 0 < n := by omega
    have hz : ((n : Int) == 0) = false := by rw [beq_eq_false_iff_ne]; omega
    have hr1 := h.below hb0
    obtain ⟨a, pv, ea, hab, kc, hp⟩ := hr1.row.at hn
    subst ea
    have hne := h.tree.ne_nil hn hpos
    have hp8 := h.len hn
    obtain ⟨m, hm⟩ : ∃ m, p.length = m + 1 := ⟨p.length - 1, by have : 0 < p.length := Nat.pos_of_ne_zero (fun e => hne (List.eq_nil_of_length_eq_zero e)); omega⟩
    obtain ⟨pA, pcap, rfl, hp1, hp2⟩ := hp.form
    unfold maxLen at hp2
    rw [hm] at hp1
    have hds : p.take m = p.dropLast := by rw [List.dropLast_eq_take, hm]; rfl
    have HFI : Hid (∀ W, Below w1.heap.size w1 W → Calls Tryd.prog 29 #[.agg #[.slice (some a) P.length cap], .slice pA m pcap] W fun e w' => e = .returned (.int .i64 (upP P n)) ∧ Below W.heap.size W w') := Lib.hid (fun W hW => by
      have := Find_any (hr1.below hW) ((hp.below hW).take (k := m) (by omega)) (Nat.le_trans (List.length_take_le' ..) (by omega))
      rwa [hds, up_find h.tree hn hpos] at this)
    have hnI : (n : Int) < (P.length : Int) := (in_nat hn).2
    have HALL : Hid (∀ W, Below w1.heap.size w1 W → W.cell? ⟨w.heap.size, 0, none⟩ = some (.slice (some a) P.length cap) ∧ W.cell? (a.add n) = some (.slice pA (m + 1) pcap)) := Lib.hid (fun W hW => by
      refine ⟨cell_of ((hW.block _ (heap_lt hbx)).trans hbx) 0, ?_⟩
      rw [← hm]
      have := (hW.cell (p := a.add n) (by rw [add_block]; exact hab)).trans kc
      exact this)
    have hmI : (m : Int) ≤ 7 := by omega
    have hmc : m ≤ pcap := by omega
    have HM := Lib.hid hm
    clear h hn hb0 hbx hw1 hr1 hab kc hp hne hp8 hds hpos h0 hm
    go_enter Tryd.func31, Tryd.ntmps31
    go_wp2_with fail
    rw [← HW1.out]
    go_wp2_with fail
    have HS := Lib.hid (HALL.out _ (below_drew (Below.refl _ w1)))
    refine wp_region_held_drew (S := fun W => W.cell? ⟨w.heap.size, 0, none⟩ = some (.slice (some a) P.length cap) ∧ W.cell? (a.add n) = some (.slice pA (m + 1) pcap)) (by kernel_rfl) HS.out (fun hHeld => ?_)
    refine wpAnyH_take (i := 0) (oi := { dst := some 7, op := Op.load 32 (Operand.tmp 2), type := 32, pos := "ref.go:43", after := #[], guard := none }) (v := ?vv1) rfl (by kernel_rfl) (by kernel_rfl) (by kernel_rfl) (fun _ _ _ h => h) ?hy1 (by assumption) ?rest1
    case hy1 => (refine Or.inl ⟨by rfl, ?_⟩; intro W hSw; (try dsimp only at hSw); go_simp; (try with_reducible rfl))
    try simp only [Act.put, List.setIfInBounds_toArray, List.set_cons_zero, List.set_cons_succ]
    refine wpAnyH_take (i := 1) (oi := { dst := some 8, op := Op.fieldAddr 32 (Operand.tmp 2) 0, type := 0, pos := "ref.go:43", after := #[], guard := none }) (v := ?vv2) rfl (by kernel_rfl) (by kernel_rfl) (by kernel_rfl) (fun _ _ _ h => h) ?hy2 (by assumption) ?rest2
    case hy2 => (refine Or.inl ⟨by rfl, ?_⟩; intro W hSw; (try dsimp only at hSw); go_simp; (try with_reducible rfl))
    try simp only [Act.put, List.setIfInBounds_toArray, List.set_cons_zero, List.set_cons_succ]
    refine wpAnyH_take (i := 2) (oi := { dst := some 9, op := Op.load 22 (Operand.tmp 8), type := 22, pos := "ref.go:43", after := #[{ on := 1, ground := Ground.data }], guard := none }) (v := ?vv3) rfl (by kernel_rfl) (by kernel_rfl) (by kernel_rfl) (fun _ _ _ h => h) ?hy3 (by assumption) ?rest3
    case hy3 => (refine Or.inl ⟨by rfl, ?_⟩; intro W hSw; (try dsimp only at hSw); go_simp; (try with_reducible rfl))
    try simp only [Act.put, List.setIfInBounds_toArray, List.set_cons_zero, List.set_cons_succ]
    refine wpAnyH_take (i := 3) (oi := { dst := some 10, op := Op.move (Operand.tmp 1), type := 3, pos := "ref.go:43", after := #[], guard := none }) (v := ?vv4) rfl (by kernel_rfl) (by kernel_rfl) (by kernel_rfl) (fun _ _ _ h => h) ?hy4 (by assumption) ?rest4
    case hy4 => (refine Or.inl ⟨by rfl, ?_⟩; intro W hSw; (try dsimp only at hSw); go_simp; (try with_reducible rfl))
    try simp only [Act.put, List.setIfInBounds_toArray, List.set_cons_zero, List.set_cons_succ]
    refine wpAnyH_take (i := 4) (oi := { dst := some 11, op := Op.indexAddr 22 (Operand.tmp 9) (Operand.tmp 10), type := 0, pos := "ref.go:43", after := #[{ on := 2, ground := Ground.data }, { on := 3, ground := Ground.data }], guard := none }) (v := ?vv5) rfl (by kernel_rfl) (by kernel_rfl) (by kernel_rfl) (fun _ _ _ h => h) ?hy5 (by assumption) ?rest5
    case hy5 => (refine Or.inl ⟨by rfl, ?_⟩; intro W hSw; (try dsimp only at hSw); go_simp; (try with_reducible rfl))
    try simp only [Act.put, List.setIfInBounds_toArray, List.set_cons_zero, List.set_cons_succ]
    refine wpAnyH_take (i := 5) (oi := { dst := some 12, op := Op.load 24 (Operand.tmp 11), type := 24, pos := "ref.go:43", after := #[{ on := 4, ground := Ground.data }], guard := none }) (v := ?vv6) rfl (by kernel_rfl) (by kernel_rfl) (by kernel_rfl) (fun _ _ _ h => h) ?hy6 (by assumption) ?rest6
    case hy6 => (refine Or.inl ⟨by rfl, ?_⟩; intro W hSw; (try dsimp only at hSw); go_simp; (try with_reducible rfl))
    try simp only [Act.put, List.setIfInBounds_toArray, List.set_cons_zero, List.set_cons_succ]
    refine wpAnyH_take (i := 6) (oi := { dst := some 13, op := Op.fieldAddr 32 (Operand.tmp 2) 0, type := 0, pos := "ref.go:43", after := #[], guard := none }) (v := ?vv7) rfl (by kernel_rfl) (by kernel_rfl) (by kernel_rfl) (fun _ _ _ h => h) ?hy7 (by assumption) ?rest7
    case hy7 => (refine Or.inl ⟨by rfl, ?_⟩; intro W hSw; (try dsimp only at hSw); go_simp; (try with_reducible rfl))
    try simp only [Act.put, List.setIfInBounds_toArray, List.set_cons_zero, List.set_cons_succ]
    refine wpAnyH_take (i := 7) (oi := { dst := some 14, op := Op.load 22 (Operand.tmp 13), type := 22, pos := "ref.go:43", after := #[{ on := 6, ground := Ground.data }], guard := none }) (v := ?vv8) rfl (by kernel_rfl) (by kernel_rfl) (by kernel_rfl) (fun _ _ _ h => h) ?hy8 (by assumption) ?rest8
    case hy8 => (refine Or.inl ⟨by rfl, ?_⟩; intro W hSw; (try dsimp only at hSw); go_simp; (try with_reducible rfl))
    try simp only [Act.put, List.setIfInBounds_toArray, List.set_cons_zero, List.set_cons_succ]
    refine wpAnyH_take (i := 8) (oi := { dst := some 15, op := Op.move (Operand.tmp 1), type := 3, pos := "ref.go:43", after := #[], guard := none }) (v := ?vv9) rfl (by kernel_rfl) (by kernel_rfl) (by kernel_rfl) (fun _ _ _ h => h) ?hy9 (by assumption) ?rest9
    case hy9 => (refine Or.inl ⟨by rfl, ?_⟩; intro W hSw; (try dsimp only at hSw); go_simp; (try with_reducible rfl))
    try simp only [Act.put, List.setIfInBounds_toArray, List.set_cons_zero, List.set_cons_succ]
    refine wpAnyH_take (i := 9) (oi := { dst := some 16, op := Op.indexAddr 22 (Operand.tmp 14) (Operand.tmp 15), type := 0, pos := "ref.go:43", after := #[{ on := 7, ground := Ground.data }, { on := 8, ground := Ground.data }], guard := none }) (v := ?vv10) rfl (by kernel_rfl) (by kernel_rfl) (by kernel_rfl) (fun _ _ _ h => h) ?hy10 (by assumption) ?rest10
    case hy10 => (refine Or.inl ⟨by rfl, ?_⟩; intro W hSw; (try dsimp only at hSw); go_simp; (try with_reducible rfl))
    try simp only [Act.put, List.setIfInBounds_toArray, List.set_cons_zero, List.set_cons_succ]
    refine wpAnyH_take (i := 10) (oi := { dst := some 17, op := Op.load 24 (Operand.tmp 16), type := 24, pos := "ref.go:43", after := #[{ on := 9, ground := Ground.data }], guard := none }) (v := ?vv11) rfl (by kernel_rfl) (by kernel_rfl) (by kernel_rfl) (fun _ _ _ h => h) ?hy11 (by assumption) ?rest11
    case hy11 => (refine Or.inl ⟨by rfl, ?_⟩; intro W hSw; (try dsimp only at hSw); go_simp; (try with_reducible rfl))
    try simp only [Act.put, List.setIfInBounds_toArray, List.set_cons_zero, List.set_cons_succ]
    refine wpAnyH_take (i := 11) (oi := { dst := some 18, op := Op.call { callee := Callee.builtin Builtin.len, args := #[Operand.tmp 17], argTypes := #[24] }, type := 3, pos := "ref.go:43", after := #[{ on := 10, ground := Ground.data }], guard := none }) (v := ?vv12) rfl (by kernel_rfl) (by kernel_rfl) (by kernel_rfl) (fun _ _ _ h => h) ?hy12 (by assumption) ?rest12
    case hy12 => (refine Or.inl ⟨by rfl, ?_⟩; intro W hSw; (try dsimp only at hSw); go_simp; (try with_reducible rfl))
    try simp only [Act.put, List.setIfInBounds_toArray, List.set_cons_zero, List.set_cons_succ]
    refine wpAnyH_take (i := 12) (oi := { dst := some 19, op := Op.binOp BinOp.sub 3 (Operand.tmp 18) (Operand.const (Value.int IntKind.i64 1)) 3, type := 3, pos := "ref.go:43", after := #[{ on := 11, ground := Ground.data }], guard := none }) (v := (.int .i64 m)) rfl (by kernel_rfl) (by kernel_rfl) (by kernel_rfl) (fun _ _ _ h => h) ?hy13 (by assumption) ?rest13
    case hy13 => ((refine Or.inl ⟨by rfl, ?_⟩; intro W hSw; (try dsimp only at hSw); go_simp; (first | done | with_reducible rfl | exact IntWalk.i64_in _ (by omega) | omega)))
    try simp only [Act.put, List.setIfInBounds_toArray, List.set_cons_zero, List.set_cons_succ]
    refine wpAnyH_take (i := 13) (oi := { dst := some 20, op := Op.slice 24 (Operand.tmp 12) none (some (Operand.tmp 19)) none, type := 24, pos := "ref.go:43", after := #[{ on := 5, ground := Ground.data }, { on := 12, ground := Ground.data }], guard := none }) (v := ?vv14) rfl (by kernel_rfl) (by kernel_rfl) (by kernel_rfl) (fun _ _ _ h => h) ?hy14 (by assumption) ?rest14
    case hy14 => (refine Or.inl ⟨by rfl, ?_⟩; intro W hSw; (try dsimp only at hSw); go_simp; (try with_reducible rfl))
    try simp only [Act.put, List.setIfInBounds_toArray, List.set_cons_zero, List.set_cons_succ]
    refine wpAnyH_ready (rs := [14]) (by kernel_rfl) (by simp) ?_
    refine AllReadyH.cons (o := { dst := some 21, op := Op.call { callee := Callee.value (Operand.func 29), args := #[Operand.tmp 7, Operand.tmp 20], argTypes := #[32, 24] }, type := 3, pos := "ref.go:43", after := #[{ on := 0, ground := Ground.data }, { on := 13, ground := Ground.data }], guard := none }) rfl (fun K hK => ?step15) ?more15
    case more15 => exact AllReadyH.nil
    ((go_simp; go_at_call 29; refine (HFI.out _ (below_drew (Below.refl _ w1))).mono ?_; rintro e w2 ⟨rfl, hb2⟩; go_wp2_with fail))
    refine hK.out _ _ ?hS15 (fun hHeld => ?rr15)
    case hS15 => (exact HALL.out _ (below_of_drew hb2))
    clear hK K
    try simp only [Act.put, List.setIfInBounds_toArray, List.set_cons_zero, List.set_cons_succ]
    have HB2 := Lib.hid (HB0.out.trans ((below_of_drew hb2).mono HB0.out.size))
    refine wpAnyH_take (i := 15) (oi := { dst := some 4, op := Op.assign (Operand.tmp 21), type := 3, pos := "ref.go:43", after := #[{ on := 14, ground := Ground.data }, { on := 14, ground := Ground.chain }, { on := 0, ground := Ground.phase }, { on := 1, ground := Ground.phase }, { on := 2, ground := Ground.phase }, { on := 3, ground := Ground.phase }, { on := 4, ground := Ground.phase }, { on := 5, ground := Ground.phase }, { on := 6, ground := Ground.phase }, { on := 7, ground := Ground.phase }, { on := 8, ground := Ground.phase }, { on := 9, ground := Ground.phase }, { on := 10, ground := Ground.phase }, { on := 11, ground := Ground.phase }, { on := 12, ground := Ground.phase }, { on := 13, ground := Ground.phase }, { on := 14, ground := Ground.phase }], guard := none }) (v := ?vv16) rfl (by kernel_rfl) (by kernel_rfl) (by kernel_rfl) (fun _ _ _ h => h) ?hy16 (by assumption) ?rest16
    case hy16 => (refine Or.inl ⟨by rfl, ?_⟩; intro W hSw; (try dsimp only at hSw); go_simp; (try with_reducible rfl))
    try simp only [Act.put, List.setIfInBounds_toArray, List.set_cons_zero, List.set_cons_succ]
    refine wpAnyH_done (by kernel_rfl) ?_ _
    clear hHeld HS hb2 HFI HALL
    obtain ⟨z, hz2⟩ : ∃ z, upP P n = z := ⟨_, rfl⟩
    rw [hz2]
    have HZ := Lib.hid hz2
    clear hz2
    go_wp2_with fail
    refine bodyPost_ret (v := .int .i64 z) (by simp [results, Tryd.results31, go_sem]) rfl ⟨by rw [HZ.out], HB2.out⟩
end Go.Proofs.YtpploljennbpdaaDoor
