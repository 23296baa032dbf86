/- JournalSaves: the law's walk. -/
import Derived.Test.YtnegnokielmgkaaGreatDoorZJsaA
import Derived.Test.YtnegnokielmgkaaGreatDoorZJouX
set_option linter.unusedSimpArgs false
set_option linter.unusedVariables false
set_option linter.unnecessarySimpa false
namespace Go.Proofs.YtnegnokielmgkaaGreatDoor
open Go.RowKit

theorem iis_upto {w : World} {A : Option Addr} {n cap : Nat} {l : List Int} (h : IIs w (.slice A n cap) l) (k : Nat) (hk : k ≤ l.length) : IIs w (.slice A k cap) (l.take k) := by
  obtain ⟨A', cap', e, h1, h2, h3⟩ := h
  injection e with e1 e2 e3
  subst e1 e2 e3
  refine ⟨A, cap, by rw [List.length_take, Nat.min_eq_left hk], by rw [List.length_take]; omega, h2, fun i x hi => h3 i x ?_⟩
  rw [List.getElem?_take] at hi
  split at hi
  · exact hi
  · cases hi
/-- The law's operations in memory: of each the kind and the records are asked. -/
def JopsIs (w : World) (v : Value) (m : Nat) : Prop := ∃ A cap, v = .slice A m cap ∧ m ≤ cap ∧ cap ≤ maxLen ∧ ∀ i, i < m → ∃ (a : Addr) (kd : Int) (lv : Value) (n : Int) (ls : List (List UInt8)), A = some a ∧ a.block < w.heap.size ∧ w.cell? (a.add (i * 3)) = some (.int .i64 kd) ∧ w.cell? ((a.add (i * 3)).add 1) = some lv ∧ w.cell? ((a.add (i * 3)).add 2) = some (.int .i64 n) ∧ PIs w lv ls
theorem beg_awq {w w' : World} {room seg : Nat} {e : Ending} (h : BegP w room seg e w') : ∃ t j q N, e = .returned (.tuple #[.pointer (some ⟨t, 0, none⟩), .pointer (some ⟨j, 0, none⟩), .pointer (some ⟨q, 0, none⟩)]) ∧ JAwq w w' N j t q ⟨⟨room, [], -1, false⟩, seg, [], []⟩ := by
  obtain ⟨t, j, q, N, e1, ⟨h1, h2, h3, h4, T, sv, rv, xs, h5, h6⟩, h7, h8, h9⟩ := h
  have hj : JB j t T rv j := by first | exact .inl rfl | exact Or.inr (Or.inl rfl)
  have := h6 j hj
  exact ⟨t, j, q, N, e1, h1, h2, h3, h4, by omega, h8, h9, T, sv, rv, xs, h5, fun k hk => ⟨(h6 k hk).1, (h6 k hk).2, by have := (h6 k hk).2; omega⟩⟩
section
variable {w : World} {j t : Nat} {T : Tp} {J : Js} {sv rv : Value} {xs : List Value}
theorem jstate_str (h : JAt w j t T J sv rv xs) (hl : J.st.length ≤ 1000) : Calls Tryz.prog 36 #[.pointer (some ⟨j, 0, none⟩)] w fun e w' => ∃ A c, e = .returned (.slice A J.st.length c) ∧ (convert 32 9 (.slice A J.st.length c)).run Tryz.prog w' = .ok (.string ⟨J.st.toArray⟩) w' ∧ Below w.heap.size w w' :=
  (jstate h (by omega)).mono fun e w' ⟨v, e1, ho, hb⟩ => by
    have hc := bis_string ho.bis
    obtain ⟨A, c, rfl, _⟩ := ho.bis
    exact ⟨A, c, e1, hc, hb⟩
theorem jlen0 (h : JAt w j t T J sv rv xs) (h0 : J.rs = []) : Calls Tryz.prog 39 #[.pointer (some ⟨j, 0, none⟩)] w fun e w' => e = .returned (.int .i64 0) ∧ w = w' := by
  have := jlen h
  rwa [h0] at this
theorem jrecs0 (h : JAt w j t T J sv rv xs) (h0 : J.rs = []) : Calls Tryz.prog 35 #[.pointer (some ⟨j, 0, none⟩)] w fun e w' => ∃ A c, e = .returned (.slice A 0 c) ∧ Below w.heap.size w w' :=
  (jrecs h (by rw [h0]; simp) (fun l hl => by rw [h0] at hl; cases hl)).mono fun e w' ⟨hb, v, ys, e1, ho, hf⟩ => by
    have hl := hf.1
    rw [h0] at hl
    obtain ⟨A, c, rfl, _⟩ := ho.vis
    rw [hl] at e1
    exact ⟨A, c, e1, hb⟩
theorem jsegs1 (h : JAt w j t T J sv rv xs) (h1 : (numsOf J.p.A).length = 1) : Calls Tryz.prog 40 #[.pointer (some ⟨j, 0, none⟩)] w fun e w' => ∃ A c, e = .returned (.slice A 1 c) ∧ Below w.heap.size w w' :=
  (jsegs h).mono fun e w' ⟨v, e1, hr, _, hb⟩ => by
    obtain ⟨A, c, rfl, _⟩ := hr.form
    rw [h1] at e1
    exact ⟨A, c, e1, hb⟩
end
theorem JAwq.at {w0 w : World} {N j t q : Nat} {J : Js} (h : JAwq w0 w N j t q J) : ∃ T sv rv xs, JAt w j t T J sv rv xs := by
  obtain ⟨_, _, _, _, _, _, _, T, sv, rv, xs, h5, _⟩ := h
  exact ⟨T, sv, rv, xs, h5⟩
theorem JAwk.at {w0 w : World} {N j t : Nat} {J : Js} (h : JAwk w0 w N j t J) : ∃ T sv rv xs, JAt w j t T J sv rv xs := by
  obtain ⟨_, _, _, _, T, sv, rv, xs, h5, _⟩ := h
  exact ⟨T, sv, rv, xs, h5⟩
def savedJ (next : Int) (seg : Nat) (st : List UInt8) : Js := ⟨savedP next st, seg, st, []⟩
/-- A Save that ends the law's calls. -/
theorem jaq_saved {w0 w : World} {N j t q : Nat} {J : Js} {m : Nat} (h : JAwq w0 w N j t q J) (hg : Good J.p 30 m) (hm : m ≤ 19000) {A : Option Addr} {c : Nat} {st : List UInt8} (hx : BIs w0 (.slice A st.length c) st) (hl : st.length ≤ 60) : ∃ next, Calls Tryz.prog 34 #[.pointer (some ⟨j, 0, none⟩), .slice A st.length c] w fun e w' => e = .returned (.int .i64 0) ∧ JAwq w0 w' w'.heap.size j t q (savedJ next J.seg st) := by
  obtain ⟨next, _, _, hs⟩ := save_ok hg (by omega) hl hm
  have hb := h.below
  have := jaq_save (st := st) (A := A) (c := c) h (fun w' ho => bis_old hx (Nat.le_trans hb.size ho.1) (fun k hk => (ho.2 k (Nat.lt_of_lt_of_le hk hb.size) (.inl hk)).trans (hb.block k hk))) (by omega) (by rw [hs])
  rw [hs] at this
  exact ⟨next, this⟩
section
variable {w : World} {j t : Nat} {T : Tp} {next : Int} {seg : Nat} {st : List UInt8} {sv rv : Value} {xs : List Value}
theorem saved_state (h : JAt w j t T (savedJ next seg st) sv rv xs) (hl : st.length ≤ 60) : Calls Tryz.prog 36 #[.pointer (some ⟨j, 0, none⟩)] w fun e w' => ∃ A c, e = .returned (.slice A st.length c) ∧ (convert 32 9 (.slice A st.length c)).run Tryz.prog w' = .ok (.string ⟨st.toArray⟩) w' ∧ Below w.heap.size w w' := jstate_str h (show st.length ≤ 1000 by omega)
theorem saved_len (h : JAt w j t T (savedJ next seg st) sv rv xs) : Calls Tryz.prog 39 #[.pointer (some ⟨j, 0, none⟩)] w fun e w' => e = .returned (.int .i64 0) ∧ w = w' := jlen0 h rfl
theorem saved_recs (h : JAt w j t T (savedJ next seg st) sv rv xs) : Calls Tryz.prog 35 #[.pointer (some ⟨j, 0, none⟩)] w fun e w' => ∃ A c, e = .returned (.slice A 0 c) ∧ Below w.heap.size w w' := jrecs0 h rfl
theorem saved_segs (h : JAt w j t T (savedJ next seg st) sv rv xs) : Calls Tryz.prog 40 #[.pointer (some ⟨j, 0, none⟩)] w fun e w' => ∃ A c, e = .returned (.slice A 1 c) ∧ Below w.heap.size w w' := jsegs1 h rfl
theorem saved_crash (h : JAt w j t T (savedJ next seg st) sv rv xs) {kv : Value} {ks : List Int} (hks : IIs w kv ks) (hr : ∀ k ∈ ks, -9223372036854775808 ≤ k ∧ k ≤ 9223372036854775807) : Calls Tryz.prog 12 #[.pointer (some ⟨t, 0, none⟩), kv] w fun e w' => ∃ c TC, e = .returned (.pointer (some ⟨c, 0, none⟩)) ∧ TP w' c TC (savedP next st) ∧ (∀ k ∈ TC.blocks c, w.heap.size ≤ k) ∧ Below w.heap.size w w' := by
  have := tp_crash h.tp hks hr
  rwa [show (savedJ next seg st).p = savedP next st from rfl, crash_saved] at this
end
theorem open_saved {w0 w : World} {c : Nat} {TC : Tp} {next : Int} {seg b : Nat} {st : List UInt8} (hG : Glob w0) (hM : Mov w0) (hb : Below w0.heap.size w0 w) (htc : TP w c TC (savedP next st)) (hnc : ∀ k ∈ TC.blocks c, b ≤ k) (h0 : w0.heap.size ≤ b) (h1 : b ≤ w.heap.size) (hs : 16 ≤ seg) (hs2 : seg ≤ 115) (hl : st.length ≤ 60) : Calls Tryz.prog 24 #[.pointer (some ⟨c, 0, none⟩), .int .i64 (seg : Int)] w fun e w' => ∃ kj, e = .returned (.tuple #[.pointer (some ⟨kj, 0, none⟩), .int .i64 0]) ∧ JAwk w0 w' w'.heap.size kj c (savedJ next seg st) ∧ Below b w w' := by
  have hg : 0 ∉ TC.blocks c := fun hc => by have := hnc _ hc; have := hG.lt; omega
  have hm : 1 ∉ TC.blocks c := fun hc => by have := hnc _ hc; have := hM.lt; omega
  have hz : sizeS (savedP next st).A ≤ 1000000 := by
    show sizeS [(next, frameB (1 :: st), (frameB (1 :: st)).length)] ≤ _
    simp only [sizeS, List.map_cons, List.map_nil, List.sum_cons, List.sum_nil]
    rw [frameB_len, List.length_cons]
    omega
  refine (jopen htc (hG.below hb) (hM.below hb) hg hm hs (by omega) hz).mono fun e w' ho => ?_
  rw [load_saved next st seg (by omega)] at ho
  obtain ⟨kj, e1, k1, k2⟩ := awk_open hG hM hb (fun k hk => Nat.le_trans h0 (hnc k hk)) ho rfl
  exact ⟨kj, e1, k1, k2.below hnc h1⟩
/-- What is there behind k of the law's calls. -/
def After (n k : Nat) (J : Js) : Prop := Good J.p k (k * 272) ∧ J.seg = n ∧ J.rs.length ≤ k * 4
theorem After.add {n k : Nat} {J : Js} (h : After n k J) (ls : List (List UInt8)) : After n (k + 1) (addP J (someB ls)).2 ∧ (addP J (someB ls)).2.seg = J.seg := by
  obtain ⟨h1, h2, h3⟩ := h
  obtain ⟨g1, g2, g3⟩ := good_add h1 (someB ls)
  have := frames_some ls
  have := someB_len ls
  exact ⟨⟨g1.mono (by omega) (by omega), g2.trans h2, by omega⟩, g2⟩
theorem After.write {n k : Nat} {J : Js} (h : After n k J) (ls : List (List UInt8)) : After n (k + 1) (writeP J (someB ls)).2 ∧ (writeP J (someB ls)).2.seg = J.seg := by
  obtain ⟨h1, h2, h3⟩ := h
  obtain ⟨g1, g2, g3⟩ := good_write h1 (someB ls)
  have := frames_some ls
  have := someB_len ls
  exact ⟨⟨g1.mono (by omega) (by omega), g2.trans h2, by omega⟩, g2⟩
theorem After.save {n k : Nat} {J : Js} (h : After n k J) (ls : List (List UInt8)) : After n (k + 1) (saveP J (firstB (someB ls))).2 ∧ (saveP J (firstB (someB ls))).2.seg = J.seg := by
  obtain ⟨h1, h2, h3⟩ := h
  obtain ⟨g1, g2, g3⟩ := good_save h1 (firstB (someB ls))
  have := firstB_le ls
  exact ⟨⟨g1.mono (by omega) (by omega), g2.trans h2, by omega⟩, g2⟩
theorem After.mono {n k k' : Nat} {J : Js} (h : After n k J) (hk : k ≤ k') : After n k' J := ⟨h.1.mono hk (by omega), h.2.1, by have := h.2.2; omega⟩
theorem After.next {n k : Nat} {J : Js} (h : After n k J) : After n (k + 1) J := ⟨h.1.mono (by omega) (by omega), h.2.1, by have := h.2.2; omega⟩
theorem After.zero (n : Nat) : After n 0 ⟨⟨20000, [], -1, false⟩, n, [], []⟩ := ⟨⟨rfl, rfl, rfl, List.Pairwise.nil, (fun x hx => by cases hx), Nat.le_refl _⟩, rfl, Nat.le_refl _⟩
section
variable {w0 w w1 : World} {N j t q n k base : Nat} {J : Js} {v : Value} {xs : List Value} {ls : List (List UInt8)}
theorem jaq_append_some (h : JAwq w0 w1 N j t q J) (ha : After n k J) (hk : k ≤ 30) (hN : N ≤ base) (ho : OwnS w1 base v xs) (hx : OldB w0 xs (someB ls)) : Calls Tryz.prog 31 #[.pointer (some ⟨j, 0, none⟩), v] w1 fun e w' => ∃ r : Int, e = .returned (.int .i64 r) ∧ JAwq w0 w' w'.heap.size j t q (addP J (someB ls)).2 := by
  have hf : ∃ A c, v = .slice A (someB ls).length c := by
    obtain ⟨A, c, rfl, _⟩ := ho.vis
    exact ⟨A, c, by rw [hx.1]⟩
  obtain ⟨A, c, rfl⟩ := hf
  exact (jaq_append h (fun w' hw => pis_old h.below ho hN hx hw) (by have := someB_len ls; omega) (by have := ha.2.2; omega) (ha.add ls).2).mono fun e w' ⟨e1, k1⟩ => ⟨_, e1, k1⟩
theorem jaq_write_some (h : JAwq w0 w1 N j t q J) (ha : After n k J) (hk : k ≤ 30) (hN : N ≤ base) (ho : OwnS w1 base v xs) (hx : OldB w0 xs (someB ls)) : Calls Tryz.prog 32 #[.pointer (some ⟨j, 0, none⟩), v] w1 fun e w' => ∃ r : Int, e = .returned (.int .i64 r) ∧ JAwq w0 w' w'.heap.size j t q (writeP J (someB ls)).2 := by
  have hf : ∃ A c, v = .slice A (someB ls).length c := by
    obtain ⟨A, c, rfl, _⟩ := ho.vis
    exact ⟨A, c, by rw [hx.1]⟩
  obtain ⟨A, c, rfl⟩ := hf
  exact (jaq_write h (fun w' hw => pis_old h.below ho hN hx hw) (by have := someB_len ls; omega) (by have := ha.2.2; omega) (ha.write ls).2).mono fun e w' ⟨e1, k1⟩ => ⟨_, e1, k1⟩
theorem jaq_save_first (h : JAwq w0 w1 N j t q J) (ha : After n k J) (hx : OldB w0 xs (someB ls)) : Calls Tryz.prog 34 #[.pointer (some ⟨j, 0, none⟩), headV xs] w1 fun e w' => ∃ r : Int, e = .returned (.int .i64 r) ∧ JAwq w0 w' w'.heap.size j t q (saveP J (firstB (someB ls))).2 := by
  have hf := head_old hx
  have hb := h.below
  generalize headV xs = v at hf
  obtain ⟨A, c, rfl, _⟩ := id hf
  exact (jaq_save h (fun w' ho => bis_old hf (Nat.le_trans hb.size ho.1) (fun k hk => (ho.2 k (Nat.lt_of_lt_of_le hk hb.size) (.inl hk)).trans (hb.block k hk))) (by have := firstB_le ls; omega) (ha.save ls).2).mono fun e w' ⟨e1, k1⟩ => ⟨_, e1, k1⟩
end
set_option maxRecDepth 100000 in
set_option maxHeartbeats 4000000 in
theorem law_saves {w : World} (hG : Glob w) (hM : Mov w) (seg : Int) {ov sv kv : Value} {m : Nat} {st : List UInt8} {ks : List Int} (ho : JopsIs w ov m) (hs : BIs w sv st) (hk : IIs w kv ks) (hkr : ∀ k ∈ ks, -9223372036854775808 ≤ k ∧ k ≤ 9223372036854775807) : Calls Tryz.prog 8 #[.int .i64 seg, ov, sv, kv] w fun e w' => e = .returned (.bool true) ∧ Below w.heap.size w w' := by
  have HG := Lib.hid hG
  have HM := Lib.hid hM
  have HKS := Lib.hid hk
  have HKR := Lib.hid hkr
  have HST := Lib.hid hs
  obtain ⟨A, cap, rfl, ho1, ho2, ho3⟩ := ho
  have HO3 := Lib.hid ho3
  unfold maxLen at ho2
  clear hG hM hk hkr hs ho3
  go_enter Tryz.func8, Tryz.ntmps8
  go_wp2_with fail
  refine (sized_any w seg).mono ?_
  rintro e w1 ⟨n, hn1, hn2, rfl, rfl⟩
  have HBG := Lib.hid (begun_any HG.out HM.out (room := 20000) (seg := n) (by omega) (by omega) (by omega))
  go_wp2_with fail
  refine (HBG.out).mono ?_
  intro e w1 hbeg
  obtain ⟨t, j, q, N, rfl, hq⟩ := beg_awq hbeg
  have HQ := Lib.hid hq
  clear hbeg hq HBG
  obtain ⟨Ak, ck, rfl, hk1, hk2, _⟩ := HKS.out
  unfold maxLen at hk2
  go_upto_if 27 with fail
  go_cut [3] from 28 to 29 (fun v wx => ∃ ks', IIs w v ks' ∧ (∀ k ∈ ks', -9223372036854775808 ≤ k ∧ k ≤ 9223372036854775807) ∧ w1 = wx)
  case first =>
    by_cases g2 : 20 < ks.length
    · have q3 : (20 : Int) < (ks.length : Int) := by omega
      have q4 : 20 ≤ ck := by omega
      go_wp2_with fail
      go_meet
      exact ⟨ks.take 20, iis_upto HKS.out 20 (by omega), fun k hk => HKR.out k (List.mem_of_mem_take hk), rfl⟩
    · have q3 : ¬ (20 : Int) < (ks.length : Int) := by omega
      go_wp2_with fail
      go_meet
      exact ⟨ks, HKS.out, HKR.out, rfl⟩
  case rest =>
    obtain ⟨ks2, hks2, hkr2, rfl⟩ := hcut
    have HK2 := Lib.hid hks2
    have HKR2 := Lib.hid hkr2
    obtain ⟨As, cs, rfl, _, _, _⟩ := HST.out
    have hop : OldP w (w1.alloc (.cells #[.slice As st.length cs] 32)) (.slice (some ⟨w1.heap.size, 0, none⟩) 1 1) [st] := by
      refine ⟨_, _, rfl, Nat.le_refl _, by unfold maxLen; omega, fun i l hi => ?_⟩
      have h0 : i = 0 := by
        rcases Nat.eq_zero_or_pos i with h | h
        · exact h
        · rw [List.getElem?_eq_none (by simp; omega)] at hi; cases hi
      subst h0
      obtain rfl : st = l := by simpa using hi
      exact ⟨_, _, rfl, by rw [asz]; exact Nat.lt_succ_self _, cell_of (alloc_at w1 (.cells #[.slice As st.length cs] 32)) 0, HST.out⟩
    have HSO := Lib.hid (some_any hop)
    have HQ1 := Lib.hid (HQ.out.keep (below_new (w := w1) (.cells #[.slice As st.length cs] 32)))
    clear hks2 hkr2 hop HQ
    go_wp2_with fail
    refine (HSO.out).mono ?_
    rintro e w2 ⟨v2, xs2, rfl, hown, hold, hb2⟩
    have HF := Lib.hid (jfirst_any hown (by rw [hold.1]; have := someB_len [st]; omega))
    have HX := Lib.hid (head_old hold)
    have HQ2 := Lib.hid (HQ1.out.keep hb2)
    clear hown hold hb2 HSO
    go_wp2_with fail
    refine (HF.out).mono ?_
    rintro e w2 ⟨rfl, rfl⟩
    generalize headV xs2 = sv2 at *
    generalize hst2 : firstB (someB [st]) = st2 at *
    have HST2 : Hid (st2.length ≤ 60) := Lib.hid (by rw [← hst2]; exact firstB_le _)
    clear hst2
    go_upto_block 0 with fail
    go_cut [12, 13] from 37 to 69 (fun xv bv wx => ∃ (J : Js) (N' : Nat), JAwq w wx N' j t q J ∧ After n 30 J)
    case first =>
      go_wp2_with fail
      go_loopw [12, 13, 36] (fun xv bv i wx => ∃ (k N' : Nat) (J : Js), k ≤ m ∧ k ≤ 30 ∧ i = .int .i64 k ∧ JAwq w wx N' j t q J ∧ After n k J) (fun _ _ i _ => m - (intOf i).toNat)
      case atStart => exact ⟨0, N, _, by omega, by omega, rfl, HQ2.out, After.zero n⟩
      case round =>
        obtain ⟨k, N', J, hkm, hk30, rfl, hq, haf⟩ := hrel
        have HQ := Lib.hid hq
        have HAF := Lib.hid haf
        clear hq haf
        by_cases hlt : k < m
        · obtain ⟨a, kd, lv, on, ls, rfl, hab, k0, k1, k2, hp⟩ := HO3.out k hlt
          have hop : OldP w w lv ls := hp
          have HLT := Lib.hid hlt
          have l1 : (k : Int) < (m : Int) := by omega
          have HB := Lib.hid HQ.out.below
          replace k0 := (HB.out.cell (p := a.add (k * 3)) (by rw [add_block]; exact hab)).trans k0
          replace k1 : wr.cell? ⟨(a.add (k * 3)).block, (a.add (k * 3)).off + 1, none⟩ = some lv := (HB.out.cell (p := (a.add (k * 3)).add 1) (by rw [add_block, add_block]; exact hab)).trans k1
          replace k2 : wr.cell? ⟨(a.add (k * 3)).block, (a.add (k * 3)).off + 2, none⟩ = some (.int .i64 on) := (HB.out.cell (p := (a.add (k * 3)).add 2) (by rw [add_block, add_block]; exact hab)).trans k2
          obtain ⟨Al, cl, rfl, _⟩ := id hop
          have HOP := Lib.hid (hop.below HB.out)
          clear hp hop
          by_cases h30 : k < 30
          · have l2 : ¬ (30 : Int) ≤ (k : Int) := by omega
            have hb3 := below_new (w := wr) (.cells #[.int .i64 kd, .slice Al ls.length cl, .int .i64 on] 61)
            have HSO := Lib.hid (some_any (HOP.out.below hb3))
            have HQ3 := Lib.hid (HQ.out.keep hb3)
            clear hb3
            by_cases hk0 : kd = 0
            · subst hk0
              go_wp2_with fail
              refine (HSO.out).mono ?_
              rintro e w4 ⟨v4, xs4, rfl, hown, hold, hb4⟩
              have HA := Lib.hid (jaq_append_some (HQ3.out.keep hb4) HAF.out hk30 HQ3.out.2.2.2.1 hown hold)
              clear hown hold hb4
              go_wp2_with fail
              refine (HA.out).mono ?_
              rintro e w5 ⟨rr, rfl, k5⟩
              have K5 := Lib.hid k5
              clear k5
              go_wp2_with fail
              go_roundw
              case rel => exact ⟨k + 1, _, _, HLT.out, by omega, by go_num, K5.out, (HAF.out.add ls).1⟩
              case measure => simp [intOf]; omega
            by_cases hk1 : kd = 1
            · subst hk1
              go_wp2_with fail
              refine (HSO.out).mono ?_
              rintro e w4 ⟨v4, xs4, rfl, hown, hold, hb4⟩
              have HA := Lib.hid (jaq_append_some (HQ3.out.keep hb4) HAF.out hk30 HQ3.out.2.2.2.1 hown hold)
              clear hown hold hb4
              go_wp2_with fail
              refine (HA.out).mono ?_
              rintro e w5 ⟨rr, rfl, k5⟩
              have K5 := Lib.hid k5
              clear k5
              go_wp2_with fail
              go_roundw
              case rel => exact ⟨k + 1, _, _, HLT.out, by omega, by go_num, K5.out, (HAF.out.add ls).1⟩
              case measure => simp [intOf]; omega
            by_cases hk2' : kd = 2
            · subst hk2'
              go_wp2_with fail
              refine (HSO.out).mono ?_
              rintro e w4 ⟨v4, xs4, rfl, hown, hold, hb4⟩
              have HA := Lib.hid (jaq_write_some (HQ3.out.keep hb4) HAF.out hk30 HQ3.out.2.2.2.1 hown hold)
              clear hown hold hb4
              go_wp2_with fail
              refine (HA.out).mono ?_
              rintro e w5 ⟨rr, rfl, k5⟩
              have K5 := Lib.hid k5
              clear k5
              go_wp2_with fail
              go_roundw
              case rel => exact ⟨k + 1, _, _, HLT.out, by omega, by go_num, K5.out, (HAF.out.write ls).1⟩
              case measure => simp [intOf]; omega
            by_cases hk3 : kd = 3
            · subst hk3
              go_wp2_with fail
              refine (HSO.out).mono ?_
              rintro e w4 ⟨v4, xs4, rfl, hown, hold, hb4⟩
              have HA := Lib.hid (jaq_write_some (HQ3.out.keep hb4) HAF.out hk30 HQ3.out.2.2.2.1 hown hold)
              clear hown hold hb4
              go_wp2_with fail
              refine (HA.out).mono ?_
              rintro e w5 ⟨rr, rfl, k5⟩
              have K5 := Lib.hid k5
              clear k5
              go_wp2_with fail
              go_roundw
              case rel => exact ⟨k + 1, _, _, HLT.out, by omega, by go_num, K5.out, (HAF.out.write ls).1⟩
              case measure => simp [intOf]; omega
            by_cases hk5 : kd = 5
            · subst hk5
              go_wp2_with fail
              refine (HSO.out).mono ?_
              rintro e w4 ⟨v4, xs4, rfl, hown, hold, hb4⟩
              have HFI := Lib.hid (jfirst_any hown (by rw [hold.1]; have := someB_len ls; omega))
              have HA := Lib.hid (jaq_save_first (HQ3.out.keep hb4) HAF.out hold)
              clear hown hold hb4
              go_wp2_with fail
              refine (HFI.out).mono ?_
              rintro e w4' ⟨rfl, rfl⟩
              go_wp2_with fail
              refine (HA.out).mono ?_
              rintro e w5 ⟨rr, rfl, k5⟩
              have K5 := Lib.hid k5
              clear k5
              go_wp2_with fail
              go_roundw
              case rel => exact ⟨k + 1, _, _, HLT.out, by omega, by go_num, K5.out, (HAF.out.save ls).1⟩
              case measure => simp [intOf]; omega
            have e0 : (kd == 0) = false := by rw [beq_eq_false_iff_ne]; exact hk0
            have e1 : (kd == 1) = false := by rw [beq_eq_false_iff_ne]; exact hk1
            have e2 : (kd == 2) = false := by rw [beq_eq_false_iff_ne]; exact hk2'
            have e3 : (kd == 3) = false := by rw [beq_eq_false_iff_ne]; exact hk3
            have e5 : (kd == 5) = false := by rw [beq_eq_false_iff_ne]; exact hk5
            go_wp2_with fail
            go_roundw
            case rel => exact ⟨k + 1, _, _, HLT.out, by omega, by go_num, HQ3.out, HAF.out.next⟩
            case measure => simp [intOf]; omega
          · have l2 : (30 : Int) ≤ (k : Int) := by omega
            have hb3 := below_new (w := wr) (.cells #[.int .i64 kd, .slice Al ls.length cl, .int .i64 on] 61)
            have HQ3 := Lib.hid (HQ.out.keep hb3)
            clear hb3
            go_wp2_with fail
            go_meet
            exact ⟨_, _, HQ3.out, HAF.out.mono hk30⟩
        · have l1 : ¬ (k : Int) < (m : Int) := by omega
          go_wp2_with fail
          go_meet
          exact ⟨_, _, HQ.out, HAF.out.mono hk30⟩
    case rest =>
      obtain ⟨J, N', hq, ⟨hg, hseg, _⟩⟩ := hcut
      obtain ⟨A2, c2, rfl, _⟩ := id HX.out
      have CV := Lib.hid (fun (W : World) (hb : Below w.heap.size w W) => bis_string (HX.out.below hb))
      obtain ⟨next, hsv⟩ := jaq_saved (hq.keep (below_drew (Below.refl _ _))) hg (by omega) HX.out HST2.out
      rw [hseg] at hsv
      have HSV := Lib.hid hsv
      have HB0 := Lib.hid hq.below
      clear hq hg hseg hsv
      go_wp2_with fail
      go_region_held (fun W => (convert 32 9 (.slice A2 st2.length c2)).run Tryz.prog W = .ok (.string ⟨st2.toArray⟩) W) ((first | go_keep | assumption | exact CV.out _ (below_drew HB0.out))) (first | (go_at_call 34; refine (HSV.out).mono ?_; rintro e w3 ⟨rfl, k3⟩; have K3 := Lib.hid k3; have hcv := CV.out _ K3.out.below; clear k3) | (go_at_call 36; obtain ⟨T3, s3, r3, x3, h3⟩ := K3.out.at; refine (saved_state h3 HST2.out).mono ?_; clear h3; rintro e w4 ⟨A4, c4, rfl, hcv4, hb4⟩; have K4 := Lib.hid (K3.out.keep hb4); have hcv := CV.out _ K4.out.below; clear hb4) | (go_at_call 39; obtain ⟨T3, s3, r3, x3, h3⟩ := K4.out.at; refine (saved_len h3).mono ?_; clear h3; rintro e w5 ⟨rfl, rfl⟩) | (go_at_call 40; obtain ⟨T3, s3, r3, x3, h3⟩ := K4.out.at; refine (saved_segs h3).mono ?_; clear h3; rintro e w6 ⟨A6, c6, rfl, hb6⟩; have K6 := Lib.hid (K4.out.keep hb6); have hcv := CV.out _ K6.out.below; clear hb6))
      clear HSV hcv4
      have HK6 := Lib.hid (K6.out.keep (below_drew (Below.refl _ _)))
      have HCR := Lib.hid (saved_crash HK6.out.at.choose_spec.choose_spec.choose_spec.choose_spec (HK2.out.below HK6.out.below) HKR2.out)
      go_wp2_with fail
      have hqc : w6.cell? ⟨q, 1, none⟩ = some (.int .i64 (n : Int)) := K6.out.2.2.2.2.2.2.1
      go_region_held (fun W => W.cell? ⟨q, 1, none⟩ = some (.int .i64 (n : Int))) ((first | go_keep | assumption)) (first | (go_at_call 12; refine (HCR.out).mono ?_; rintro e w7 ⟨c, TC, rfl, htc, hnc, hb7⟩; have HTC := Lib.hid htc; have HNC := Lib.hid hnc; have HK7 := Lib.hid (HK6.out.keep hb7); have HB7 := Lib.hid hb7; have hqc7 : w7.cell? ⟨q, 1, none⟩ = some (.int .i64 (n : Int)) := HK7.out.2.2.2.2.2.2.1; clear htc hnc hb7) | (go_at_call 24; refine (open_saved HG.out HM.out HK7.out.below HTC.out HNC.out HK6.out.below.size HB7.out.size hn1 hn2 HST2.out).mono ?_; rintro e w8 ⟨kj, rfl, k8, hb8⟩; have K8 := Lib.hid k8; have hqc8 : w8.cell? ⟨q, 1, none⟩ = some (.int .i64 (n : Int)) := (HK6.out.keep (HB7.out.trans hb8)).2.2.2.2.2.2.1; clear k8 hb8))
      clear hqc hqc7 hqc8 hcv
      have HK8 := Lib.hid (K8.out.keep (below_drew (Below.refl _ _)))
      go_wp2_with fail
      go_region_held (fun W => (convert 32 9 (.slice A2 st2.length c2)).run Tryz.prog W = .ok (.string ⟨st2.toArray⟩) W) ((first | go_keep | assumption | exact CV.out _ HK8.out.below)) (first | (go_at_call 36; obtain ⟨T3, s3, r3, x3, h3⟩ := HK8.out.at; refine (saved_state h3 HST2.out).mono ?_; clear h3; rintro e w9 ⟨A9, c9, rfl, hcv9, hb9⟩; have K9 := Lib.hid (HK8.out.keep hb9); have hcv := CV.out _ K9.out.below; clear hb9) | (go_at_call 35; obtain ⟨T3, s3, r3, x3, h3⟩ := K9.out.at; refine (saved_recs h3).mono ?_; clear h3; rintro e w10 ⟨A10, c10, rfl, hb10⟩; have K10 := Lib.hid (K9.out.keep hb10); have hcv := CV.out _ K10.out.below; clear hb10) | (go_at_call 26; refine (awake5 K10.out.ok2.1 K10.out.ok2.2).mono ?_; rintro e w11 ⟨rfl, hb11⟩; have K11 := Lib.hid (K10.out.keep hb11); have hcv := CV.out _ K11.out.below; clear hb11))
      go_wp2_with fail
      go_ret
      exact ⟨rfl, K11.out.below⟩
end Go.Proofs.YtnegnokielmgkaaGreatDoor
