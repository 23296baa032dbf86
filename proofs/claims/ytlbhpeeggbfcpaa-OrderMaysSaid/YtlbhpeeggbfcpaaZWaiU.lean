/- The queue: Push and Pop of package heap, and add and take: what is taken is the least of all that is in. -/
import Derived.Test.YtlbhpeeggbfcpaaZWaiQ
import Derived.Test.YtlbhpeeggbfcpaaZWaiR
set_option linter.unusedSimpArgs false
set_option linter.unusedVariables false
set_option linter.unnecessarySimpa false
namespace Go.Proofs.Ytlbhpeeggbfcpaa
open Go.RowKit

/-- A queue of these, in whatever order they were put in. -/
def QH (w : World) (q : Nat) (v : Value) (F : List Int) : Prop := ∃ l, QAt w q v l ∧ l.Perm F ∧ HO l l.length
theorem QH.below {w w' : World} {q : Nat} {v : Value} {F : List Int} (h : QH w q v F) (hb : Below w.heap.size w w') : QH w' q v F := by
  obtain ⟨l, h1, h2, h3⟩ := h
  exact ⟨l, h1.below hb, h2, h3⟩
theorem QH.perm {w : World} {q : Nat} {v : Value} {F F' : List Int} (h : QH w q v F) (hp : F.Perm F') : QH w q v F' := by
  obtain ⟨l, h1, h2, h3⟩ := h
  exact ⟨l, h1, h2.trans hp, h3⟩
theorem QH.len {w : World} {q : Nat} {v : Value} {F : List Int} (h : QH w q v F) : Calls Try.prog 55 #[.pointer (some ⟨q, 0, none⟩)] w fun e w' => e = .returned (.int .i64 F.length) ∧ w' = w := by
  obtain ⟨l, h1, h2, _⟩ := h
  rw [← h2.length_eq]
  exact qlen h1
set_option maxRecDepth 100000 in
set_option maxHeartbeats 4000000 in
theorem hpush_any {w : World} {q : Nat} {v : Value} {F : List Int} {x : Int} (h : QH w q v F) (hl : F.length ≤ 900000) : Calls Try.prog 75 #[.iface 125 (.pointer (some ⟨q, 0, none⟩)), .iface 3 (.int .i64 x)] w fun e w' => ∃ v', e = .returned (.tuple #[]) ∧ QH w' q v' (F ++ [x]) ∧ (∀ k, v'.ownBlock = some k → v.ownBlock = some k ∨ w.heap.size ≤ k) ∧ Touch (fun k => k = q ∨ v.ownBlock = some k) w w' := by
  obtain ⟨l, hq, hp, ho⟩ := h
  have hll : l.length = F.length := hp.length_eq
  have HPU := Lib.hid (qpush (x := x) hq (by omega))
  have hm1 := mPush (.pointer (some ⟨q, 0, none⟩))
  have hm2 := mLen (.pointer (some ⟨q, 0, none⟩))
  have HP := Lib.hid hp
  have HO1 := Lib.hid ho
  have b1 : (l.length : Int) ≤ 900000 := by omega
  have HLN : Hid (l.length ≤ 900000) := Lib.hid (by omega)
  clear hq hp ho hll hl
  go_enter Try.func75, Try.ntmps75
  go_wp2_with fail
  refine (HPU.out).mono ?_
  rintro e w1 ⟨v1, rfl, hq1, hb1, ht1⟩
  have HL := Lib.hid (qlen hq1)
  have HU := Lib.hid (up_any (UpR (l ++ [x])) UpR.step hq1 (UpR.start HO1.out) (by simp) (by have := HLN.out; simp; omega))
  have HT1 := Lib.hid ht1
  have HB1 := Lib.hid hb1
  clear hq1 ht1 hb1 HPU
  go_wp2_with fail
  refine (HL.out).mono ?_
  rintro e w2 ⟨rfl, hw2⟩
  subst w2
  go_wp2_with fail
  refine (HU.out).mono ?_
  rintro e w3 ⟨l3, j3, rfl, hr3, hl3, he3, hq3, ht3⟩
  have HT3 := Lib.hid (HT1.out.trans ht3 (fun k hk hv => by
    rcases HB1.out k hv with e | e
    · exact .inr e
    · omega))
  have HQ3 : Hid (QH w3 q v1 (F ++ [x])) := Lib.hid ⟨l3, hq3, hr3.perm.trans (HP.out.append_right [x]), hr3.done (by
    rcases he3 with e | ⟨a, b, h1, h2, h3⟩
    · exact .inl e
    · exact .inr ⟨a, b, h1, h2, by omega⟩)⟩
  clear hr3 hl3 he3 hq3 ht3 HL HU
  go_wp2_with fail
  first | go_end0 | (refine bodyPost_end (v := .tuple #[]) (by simp [results, Try.results75, go_sem]) rfl ?_)
  first | exact ⟨_, rfl, HQ3.out, HB1.out, HT3.out⟩ | exact ⟨rfl, _, HQ3.out, HB1.out, HT3.out⟩
set_option maxRecDepth 100000 in
set_option maxHeartbeats 4000000 in
theorem hpop_any {w : World} {q : Nat} {v : Value} {F : List Int} {x : Int} (h : QH w q v (x :: F)) (hx : ∀ y ∈ F, x ≤ y) (hl : F.length ≤ 900000) : Calls Try.prog 76 #[.iface 125 (.pointer (some ⟨q, 0, none⟩))] w fun e w' => ∃ v', e = .returned (.iface 3 (.int .i64 x)) ∧ QH w' q v' F ∧ v'.ownBlock = v.ownBlock ∧ Touch (fun k => k = q ∨ v.ownBlock = some k) w w' := by
  obtain ⟨l, hq, hp, ho⟩ := h
  obtain ⟨n, hn⟩ : ∃ n, l.length = n + 1 := ⟨F.length, by rw [hp.length_eq]; rfl⟩
  have hnF : n = F.length := by have := hp.length_eq; rw [hn] at this; simpa using this
  have h0 : l[0]? = some l[0] := List.getElem?_eq_getElem (by omega)
  have h0x : l[0] = x := by
    have hle : ∀ y ∈ l, l[0] ≤ y := fun y hy => by
      obtain ⟨j, hj⟩ := List.getElem?_of_mem hy
      have hjl := (List.getElem?_eq_some_iff.1 hj).1
      have := ho.least j hjl
      rw [gv_some h0, gv_some hj] at this
      exact this
    have h1 : l[0] ≤ x := hle x (hp.mem_iff.2 (by simp))
    have h2 : l[0] ∈ x :: F := hp.mem_iff.1 (List.mem_of_getElem? h0)
    rcases List.mem_cons.1 h2 with e | e
    · exact e
    · have := hx _ e
      omega
  rw [h0x] at h0
  have hy : l[n]? = some (l[n]'(by omega)) := List.getElem?_eq_getElem (by omega)
  generalize l[n]'(by omega) = y at hy
  have HL := Lib.hid (qlen hq)
  have hm1 := mLen (.pointer (some ⟨q, 0, none⟩))
  have hm2 := mSwap (.pointer (some ⟨q, 0, none⟩))
  have hm3 := mPop (.pointer (some ⟨q, 0, none⟩))
  have HSW : Hid (Calls Try.prog 117 #[.pointer (some ⟨q, 0, none⟩), .int .i64 0, .int .i64 n] w fun e w' => e = .returned (.tuple #[]) ∧ QAt w' q v ((l.set 0 y).set n x) ∧ Touch (fun k => v.ownBlock = some k) w w') := Lib.hid (qswap hq h0 hy)
  have HP := Lib.hid hp
  have HS := Lib.hid (DownR.start ho hn h0 hy)
  have HPS := Lib.hid ((perm_swap0 h0 hy).trans hp)
  have HXN : Hid (((l.set 0 y).set n x)[n]? = some x) := Lib.hid (by rw [List.getElem?_set_self (by simp; omega)])
  have HLL : Hid (((l.set 0 y).set n x).length = n + 1) := Lib.hid (by simp [hn])
  have b1 : (n : Int) ≤ 900000 := by omega
  have HNN : Hid (n ≤ 900000) := Lib.hid (by omega)
  rw [hn] at HL
  clear hq hp ho hnF h0 h0x hy hl
  generalize (l.set 0 y).set n x = l1 at *
  go_enter Try.func76, Try.ntmps76
  go_wp2_with fail
  refine (HL.out).mono ?_
  rintro e w1 ⟨rfl, hw1⟩
  subst w1
  go_wp2_with fail
  refine (HSW.out).mono ?_
  rintro e w2 ⟨rfl, hq2, ht2⟩
  have HD : Hid (Calls Try.prog 92 #[.iface 125 (.pointer (some ⟨q, 0, none⟩)), .int .i64 0, .int .i64 n] w2 fun e w' => ∃ l i b, e = .returned (.bool b) ∧ DownR l1 n l i ∧ l.length = l1.length ∧ (n ≤ 2 * i + 1 ∨ ∃ x, l[i]? = some x ∧ ∃ j y, Least l n i j y ∧ x ≤ y) ∧ QAt w' q v l ∧ Touch (fun k => v.ownBlock = some k) w2 w') := Lib.hid (down_any (i0 := 0) (DownR l1 n) (fun l i j x y h hx hL hlt => DownR.step l i j x y h hx ⟨hL.at_, hL.child, hL.lt, hL.least⟩ (by rw [h.perm.length_eq, HLL.out]; omega) hlt) hq2 HS.out (by rw [HLL.out]; omega) (by rw [HLL.out]; omega) (by have := HNN.out; rw [HLL.out]; omega))
  have HT2 := Lib.hid ht2
  clear hq2 ht2 HSW HL
  go_wp2_with fail
  refine (HD.out).mono ?_
  rintro e w3 ⟨l3, i3, b3, rfl, hr3, hl3, he3, hq3, ht3⟩
  have hlen3 : l3.length = n + 1 := by rw [hl3]; exact HLL.out
  have hx3 : l3[n]? = some x := by rw [hr3.same n (Nat.le_refl _)]; exact HXN.out
  have hsp : l3 = l3.take n ++ [x] := by
    have e1 := List.take_append_drop n l3
    have e2 : l3.drop n = [x] := by
      have hlt : n < l3.length := by omega
      rw [List.drop_eq_getElem_cons hlt, List.drop_of_length_le (by omega)]
      rw [(List.getElem?_eq_some_iff.1 hx3).2]
    rw [e2] at e1
    exact e1.symm
  have ho3 : HO l3 n := hr3.done (by
    rcases he3 with e | ⟨x, hx, j, y, hL, hle⟩
    · exact .inl e
    · exact .inr ⟨x, hx, j, y, ⟨hL.at_, hL.child, hL.lt, hL.least⟩, hle⟩) (by omega)
  have hlt3 : (l3.take n).length = n := by rw [List.length_take]; omega
  have hp3 : (l3.take n).Perm F := by
    have e1 : (l3.take n ++ [x]).Perm (x :: F) := by
      rw [← hsp]
      exact hr3.perm.trans HPS.out
    have e2 : (x :: l3.take n).Perm (x :: F) := (List.perm_append_comm (l₁ := [x]) (l₂ := l3.take n)).trans e1
    exact e2.cons_inv
  have ho4 : HO (l3.take n) (l3.take n).length := by
    rw [hlt3]
    intro k h0 hk
    have hg : ∀ k, k < n → gv (l3.take n) k = gv l3 k := fun k hk => by unfold gv; rw [List.getElem?_take_of_lt hk]
    rw [hg k hk, hg _ (by omega)]
    exact ho3 k h0 hk
  have HPO := Lib.hid (qpop (hsp ▸ hq3 : QAt w3 q v (l3.take n ++ [x])))
  have HT3 := Lib.hid (HT2.out.trans ht3 (fun _ _ h => h))
  have HQF : Hid (∀ (w4 : World) (v4 : Value), QAt w4 q v4 (l3.take n) → QH w4 q v4 F) := Lib.hid (fun w4 v4 h => ⟨_, h, hp3, ho4⟩)
  clear hr3 hl3 he3 hq3 ht3 hlen3 hx3 hsp ho3 hlt3 hp3 ho4 HD
  go_wp2_with fail
  refine (HPO.out).mono ?_
  rintro e w4 ⟨v4, rfl, hq4, hv4, ht4⟩
  have HQ4 := Lib.hid (HQF.out w4 v4 hq4)
  have HT4 := Lib.hid ((HT3.out.mono (T := fun k => k = q ∨ v.ownBlock = some k) (fun _ _ h => .inr h)).trans ht4 (fun _ _ h => .inl h))
  have HV4 := Lib.hid hv4
  clear hq4 hv4 ht4 HQF HPO
  go_wp2_with fail
  go_ret
  exact ⟨_, rfl, HQ4.out, HV4.out, HT4.out⟩
set_option maxRecDepth 100000 in
set_option maxHeartbeats 4000000 in
theorem qadd_any {w : World} {q : Nat} {v : Value} {F : List Int} {x : Int} (h : QH w q v F) (hl : F.length ≤ 900000) : Calls Try.prog 54 #[.pointer (some ⟨q, 0, none⟩), .int .i64 x] w fun e w' => ∃ v', e = .returned (.tuple #[]) ∧ QH w' q v' (F ++ [x]) ∧ (∀ k, v'.ownBlock = some k → v.ownBlock = some k ∨ w.heap.size ≤ k) ∧ Touch (fun k => k = q ∨ v.ownBlock = some k) w w' := by
  have HU := Lib.hid (hpush_any (x := x) h hl)
  clear h hl
  go_enter Try.func54, Try.ntmps54
  go_wp2_with fail
  refine (HU.out).mono ?_
  rintro e w1 ⟨v1, rfl, hq1, hb1, ht1⟩
  have HQ := Lib.hid hq1
  have HB := Lib.hid hb1
  have HT := Lib.hid ht1
  clear hq1 hb1 ht1
  go_wp2_with fail
  first | go_end0 | (refine bodyPost_end (v := .tuple #[]) (by simp [results, Try.results54, go_sem]) rfl ?_)
  first | exact ⟨_, rfl, HQ.out, HB.out, HT.out⟩ | exact ⟨rfl, _, HQ.out, HB.out, HT.out⟩
set_option maxRecDepth 100000 in
set_option maxHeartbeats 4000000 in
theorem qtake_any {w : World} {q : Nat} {v : Value} {F : List Int} {x : Int} (h : QH w q v (x :: F)) (hx : ∀ y ∈ F, x ≤ y) (hl : F.length ≤ 900000) : Calls Try.prog 56 #[.pointer (some ⟨q, 0, none⟩)] w fun e w' => ∃ v', e = .returned (.int .i64 x) ∧ QH w' q v' F ∧ v'.ownBlock = v.ownBlock ∧ Touch (fun k => k = q ∨ v.ownBlock = some k) w w' := by
  have HU := Lib.hid (hpop_any h hx hl)
  have ht := tai x
  clear h hl hx
  go_enter Try.func56, Try.ntmps56
  go_wp2_with fail
  refine (HU.out).mono ?_
  rintro e w1 ⟨v1, rfl, hq1, hv1, ht1⟩
  have HQ := Lib.hid hq1
  have HV := Lib.hid hv1
  have HT := Lib.hid ht1
  clear hq1 hv1 ht1
  go_wp2_with fail
  go_ret
  exact ⟨_, rfl, HQ.out, HV.out, HT.out⟩
end Go.Proofs.Ytlbhpeeggbfcpaa
