/- walk.from: goes along a graph. -/
import Derived.Test.YtlbhpeeggbfcpaaZWaiE
set_option linter.unusedSimpArgs false
set_option linter.unusedVariables false
set_option linter.unnecessarySimpa false
namespace Go.Proofs.Ytlbhpeeggbfcpaa
open Go.RowKit
open Go.Maps (Keyed)

theorem owed_le (G : Gr) (N : Nu) : owed G N ≤ (G.map fun e => e.2.length).sum := by
  unfold owed
  induction G with
  | nil => simp
  | cons e G ih =>
    simp only [List.map_cons, List.sum_cons]
    omega
/-- Numbers that are read, in a block other than m. -/
def XIs (w : World) (v : Value) (l : List Int) (m : Nat) : Prop := ∃ A cap, v = .slice A l.length cap ∧ l.length ≤ cap ∧ cap ≤ maxLen ∧ ∀ i x, l[i]? = some x → ∃ a : Addr, A = some a ∧ a.block < w.heap.size ∧ a.block ≠ m ∧ w.cell? (a.add i) = some (.int .i64 x)
theorem RowIs.xis {w : World} {v : Value} {l : List Int} {m : Nat} (h : RowIs w 1 v l.length (ints l)) (hm : v.ownBlock ≠ some m) : XIs w v l m := by
  rcases h with ⟨rfl, h1, h2⟩ | ⟨g, cap, rfl, h1, h2, h3⟩
  · obtain rfl : l = [] := List.eq_nil_of_length_eq_zero h1
    exact ⟨none, 0, rfl, Nat.le_refl _, by unfold maxLen; omega, fun i x hx => by simp at hx⟩
  · refine ⟨_, cap, rfl, h2, h3.max, fun i x hx => ⟨⟨g, 0, none⟩, rfl, h3.lt, fun e => hm (by rw [← e]; rfl), ?_⟩⟩
    rw [add0]
    exact h3.holds i _ (by unfold ints; rw [List.getElem?_map, hx]; rfl)
theorem XIs.touch {w w' : World} {v : Value} {l : List Int} {m : Nat} (h : XIs w v l m) (ht : Touch (fun k => k = m) w w') : XIs w' v l m := by
  obtain ⟨A, cap, e, h1, h2, h3⟩ := h
  refine ⟨A, cap, e, h1, h2, fun i x hx => ?_⟩
  obtain ⟨a, q1, q2, q3, q4⟩ := h3 i x hx
  refine ⟨a, q1, Nat.lt_of_lt_of_le q2 ht.size, q3, ?_⟩
  rw [← q4]
  exact World.cell?_of_block (a := a.add i) (by rw [add_block]; exact ht.block _ q2 q3)
/-- A row, and the same cut by its last one. -/
theorem RowIs.cut {w : World} {v : Value} {l : List Int} (h : RowIs w 1 v l.length (ints l)) (hl : l ≠ []) : ∃ g cap, v = .slice (some ⟨g, 0, none⟩) l.length cap ∧ l.length ≤ cap ∧ cap ≤ maxLen ∧ RowIs w 1 (.slice (some ⟨g, 0, none⟩) (l.length - 1) cap) l.dropLast.length (ints l.dropLast) ∧ ∀ i x, l[i]? = some x → w.cell? ⟨g, i, none⟩ = some (.int .i64 x) := by
  rcases h with ⟨rfl, h1, h2⟩ | ⟨g, cap, rfl, h1, h2, h3⟩
  · exact absurd (List.eq_nil_of_length_eq_zero h1) hl
  · refine ⟨g, cap, rfl, h2, h3.max, .inr ⟨g, cap, by rw [List.length_dropLast], by rw [ints_len]; omega, by rw [List.length_dropLast]; omega, ?_⟩, fun i x hx => h3.holds i _ (by unfold ints; rw [List.getElem?_map, hx]; rfl)⟩
    have e : ints l = ints l.dropLast ++ ints [l.getLast hl] := by
      unfold ints
      rw [← List.map_append, List.dropLast_concat_getLast]
    rw [e] at h3
    exact h3.less
theorem meet_mem {N : Nu} {p : List Int} {x y : Int} (h : y ∈ (meetP N p x).2) : y ∈ p ∨ y = x := by
  unfold meetP at h
  split at h
  · exact .inl h
  · rcases List.mem_append.1 h with h | h
    · exact .inl h
    · exact .inr (List.mem_singleton.1 h)
theorem GAt.look {P : Program} {K E M : TypeId} {w : World} {b0 g clock : Nat} {G : Gr} {L : List MapEntry} (h : GAt P K w b0 g G L clock) (KK : Keyed P K) (hM : P.underlying M = some (.map K E)) (hz : ∀ W : World, (zeroValue E).run P W = .ok (.slice none 0 0) W) {x : Int} (hx : keyOf P K (.int .i64 x) = some (.int .i64 x)) :
    ∃ v0, RowIs w 1 v0 (at_ G x).length (ints (at_ G x)) ∧ (∀ W : World, W.heap[g]? = w.heap[g]? → (Instr.lookup M (.map (some g)) (.int .i64 x) false).run P W = .ok v0 W) ∧ ∀ k, v0.ownBlock = some k → ∃ e ∈ L, e.val.ownBlock = some k := by
  rcases h.cases x with ⟨j, e, l, hj, he, hg⟩ | hn
  · obtain ⟨ha, hk⟩ := at_hit h.nodup hg
    obtain ⟨_, hr⟩ := h.each j e _ hj hg
    rw [ha]
    exact ⟨e.val, hr, fun W hW => (h.map.keep hW).look_hit KK hM hx hj he false, fun k hk => ⟨e, List.mem_of_getElem? hj, hk⟩⟩
  · obtain ⟨hk, ha, _⟩ := h.miss hn
    rw [ha]
    exact ⟨.slice none 0 0, .inl ⟨rfl, rfl, rfl⟩, fun W hW => (h.map.keep hW).look_miss KK hM (hz W) hx hn false, fun k e => by cases e⟩
/-- What the outer loop holds. -/
def OutI (w1 : World) (m B : Nat) (G : Gr) (N0 : Nu) (who : List Int) (k : Nat) (lv : Value) (wr : World) : Prop :=
  ∃ N left Ln c, NAt Try.prog 3 wr m N Ln c ∧ RowIs wr 1 lv left.length (ints left) ∧ FromR G N0 (who.take k) N left ∧ InvP G N ∧ (∀ b, lv.ownBlock = some b → B ≤ b) ∧ Touch (fun b => b = m) w1 wr ∧ left.length ≤ 2001 * k ∧ ∀ y ∈ left, InR64 y
/-- What the inner loop holds. -/
structure InnI (w1 : World) (m B : Nat) (G : Gr) (s0 : Wk) (i : Nat) (s : Wk) (pv lv : Value) (wr : World) : Prop where
  at_ : stepsP G i s0 = s
  less : mu G s + i ≤ mu G s0
  met : ∃ Ln c, NAt Try.prog 3 wr m s.1 Ln c
  path : RowIs wr 1 pv s.2.1.length (ints s.2.1)
  left : RowIs wr 1 lv s.2.2.length (ints s.2.2)
  apart : ∀ b, pv.ownBlock = some b → B ≤ b ∧ lv.ownBlock ≠ some b
  own : ∀ b, lv.ownBlock = some b → B ≤ b
  inv : InvP G s.1
  touch : Touch (fun b => b = m) w1 wr
  few : s.2.2.length ≤ s0.2.2.length + i
  numP : ∀ y ∈ s.2.1, InR64 y
  numL : ∀ y ∈ s.2.2, InR64 y
set_option maxRecDepth 100000 in
set_option maxHeartbeats 2000000 in
theorem from_any {w : World} {b0 g m clock cn : Nat} {G : Gr} {L Ln : List MapEntry} {N0 : Nu} {v : Value} {who : List Int} (hG : GAt Try.prog 3 w b0 g G L clock) (hN : NAt Try.prog 3 w m N0 Ln cn) (hmg : m ≠ g) (hmo : ∀ e ∈ L, ∀ k, e.val.ownBlock = some k → k ≠ m) (hI : InvP G N0) (hW : XIs w v who m) (hR : ∀ x ∈ who, InR64 x) (hGR : ∀ e ∈ G, ∀ y ∈ e.2, InR64 y) (hsum : (G.map fun e => e.2.length).sum ≤ 1000) (hlen : who.length ≤ 1000) :
    Calls Try.prog 29 #[.agg #[.map (some g), .map (some m)], v] w fun e w' => ∃ v' N left L' c', e = .returned v' ∧ NAt Try.prog 3 w' m N L' c' ∧ RowIs w' 1 v' left.length (ints left) ∧ FromR G N0 who N left ∧ InvP G N ∧ (∀ b, v'.ownBlock = some b → w.heap.size ≤ b) ∧ Touch (fun b => b = m) w w' ∧ left.length ≤ 2001 * who.length ∧ ∀ y ∈ left, InR64 y := by
  obtain ⟨A, cap, rfl, hc1, hc2, _⟩ := id hW
  unfold maxLen at hc2
  have hl' : (who.length : Int) ≤ 1000 := by omega
  have hbx := below_new (w := w) (.cells #[.map (some g), .map (some m)] 71)
  have s0 := cell_of (alloc_at w (.cells #[.map (some g), .map (some m)] 71)) 0
  have s1 := cell_of (alloc_at w (.cells #[.map (some g), .map (some m)] 71)) 1
  have HBX := Lib.hid hbx
  have HGA := Lib.hid (hG.below hbx)
  have HW := Lib.hid (hW.touch (Touch.of_below hbx))
  have HO0 : Hid (OutI (w.alloc (.cells #[.map (some g), .map (some m)] 71)) m (w.heap.size + 1) G N0 who 0 (.slice none 0 0) (w.alloc (.cells #[.map (some g), .map (some m)] 71))) := Lib.hid ⟨N0, [], Ln, cn, hN.keep (hbx.block m hN.map.lt), RowIs.nil _ _, by rw [List.take_zero]; exact .nil, hI, (fun b e => by cases e), Touch.refl _ _, by simp, fun y hy => by cases hy⟩
  have hms : m < w.heap.size := hN.map.lt
  have HS0 := Lib.hid s0
  have HS1 := Lib.hid s1
  have HR := Lib.hid hR
  have HGR := Lib.hid hGR
  have HMO := Lib.hid hmo
  have HSZ : Hid ((w.alloc (.cells #[.map (some g), .map (some m)] 71)).heap.size = w.heap.size + 1) := Lib.hid (asz _ _)
  have HML : Hid (∀ e ∈ L, ∀ k, e.val.ownBlock = some k → k < w.heap.size) := Lib.hid (fun e he k hk => by
    obtain ⟨j, hj⟩ := List.getElem?_of_mem he
    have h1 : j < G.length := by rw [← hG.len]; exact (List.getElem?_eq_some_iff.1 hj).1
    exact (hG.each j e _ hj (List.getElem?_eq_getElem h1)).2.lt k hk)
  clear hG hN hI hW hR hGR hmo s0 s1 hbx
  go_enter Try.func29, Try.ntmps29
  go_wp2_with fail
  generalize hW1 : w.alloc (.cells #[.map (some g), .map (some m)] 71) = w1 at *
  go_loopg [5, 14] who.length (fun n lv iv wr => ∃ k : Nat, k ≤ who.length ∧ who.length - k = n ∧ iv = .int .i64 k ∧ OutI w1 m (w.heap.size + 1) G N0 who k lv wr)
  case atStart => exact ⟨0, Nat.zero_le _, by simp, rfl, HO0.out⟩
  case round =>
    obtain ⟨k, hk, hn, rfl, hO⟩ := hrel
    have HO := Lib.hid hO
    clear hO
    by_cases hlt : k < who.length
    · have hx : who[k]? = some who[k] := List.getElem?_eq_getElem hlt
      have hxr := HR.out _ (List.getElem_mem hlt)
      generalize who[k] = x at hx hxr
      obtain ⟨N, left, Ln1, c1, hn1, hleft, hfrom, hinv, hown, htch, hfew, hnum⟩ := HO.out
      obtain ⟨A', cap', e', _, _, h3⟩ := HW.out.touch htch
      injection e' with e1 _ e3
      subst e1 e3
      obtain ⟨a, rfl, ha, _, k0⟩ := h3 k x hx
      have hi : (k : Int) < (who.length : Int) := by omega
      have hsz := HSZ.out
      have q0 : wr.cell? ⟨w.heap.size, 0, none⟩ = some (.map (some g)) := (World.cell?_of_block (a := ⟨w.heap.size, 0, none⟩) (htch.block w.heap.size (by omega) (fun e => by have e : w.heap.size = m := e; omega))).trans HS0.out
      have q1 : wr.cell? ⟨w.heap.size, 1, none⟩ = some (.map (some m)) := (World.cell?_of_block (a := ⟨w.heap.size, 1, none⟩) (htch.block w.heap.size (by omega) (fun e => by have e : w.heap.size = m := e; omega))).trans HS1.out
      have HM := Lib.hid (meet_any (g := g) hn1 (RowIs.nil _ _) (path := []) (x := x) (by intro e; cases e) hxr (by simp))
      have HX := Lib.hid hx
      have HLT := Lib.hid hlt
      have HLEFT := Lib.hid hleft
      have HFROM := Lib.hid hfrom
      have HINV := Lib.hid hinv
      have HOWN := Lib.hid hown
      have HT := Lib.hid htch
      have HFEW := Lib.hid hfew
      have HNUM := Lib.hid hnum
      have HXR := Lib.hid hxr
      clear h3 hx hk hn1 hleft hfrom hinv hown htch hfew hnum hxr HO
      go_wp2_with fail
      refine (HM.out).mono ?_
      rintro e w2 ⟨v2, L2, c2, rfl, hn2, hp2, ho2, ht2⟩
      have ht2' : Touch (fun b => b = m) wr w2 := ht2.mono (fun b _ h => h.elim id (fun e => by cases e))
      have HIN : Hid (InnI w1 m (w.heap.size + 1) G ((meetP N [] x).1, (meetP N [] x).2, left) 0 ((meetP N [] x).1, (meetP N [] x).2, left) v2 u5 w2) := Lib.hid ⟨rfl, by omega, ⟨L2, c2, hn2⟩, hp2, HLEFT.out.touch ht2' (fun b hb e => by have := HOWN.out b hb; have e : b = m := e; omega), fun b hb => by
        have h1 : wr.heap.size ≤ b := (ho2 b hb).elim (fun e => by cases e) id
        have h2 := HT.out.size
        exact ⟨by omega, fun e => by have := HLEFT.out.lt b e; omega⟩, HOWN.out, fun z => by rw [getN_meet]; exact HINV.out z, HT.out.trans ht2' (fun _ _ h => h), Nat.le_add_right _ _, fun y hy => by
        rcases meet_mem hy with h | rfl
        · cases h
        · exact HXR.out, HNUM.out⟩
      clear hn2 hp2 ho2 ht2 ht2'
      have HMU : Hid (mu G ((meetP N [] x).1, (meetP N [] x).2, left) ≤ 2001) := Lib.hid (by
        have h1 := owed_le G (meetP N [] x).1
        have h2 : (meetP N [] x).2.length ≤ 1 := by unfold meetP; split <;> simp
        show 2 * owed G (meetP N [] x).1 + (meetP N [] x).2.length ≤ 2001
        omega)
      generalize hs0 : (((meetP N [] x).1, (meetP N [] x).2, left) : Wk) = s0 at HIN HMU
      have HS0L : Hid (s0.2.2.length ≤ 2001 * k) := Lib.hid (by rw [← hs0]; exact HFEW.out)
      go_wp2_with fail
      go_loopg [8, 5] (mu G s0) (fun n pv lv wx => ∃ i s, mu G s = n ∧ InnI w1 m (w.heap.size + 1) G s0 i s pv lv wx)
      case atStart => exact ⟨0, s0, rfl, HIN.out⟩
      case round =>
        obtain ⟨i, s, hmu, hin⟩ := hrel
        have HI := Lib.hid hin
        have HMU2 := Lib.hid hmu
        clear hin hmu
        by_cases hp : s.2.1 = []
        · have hform : ∃ A8 c8, u8 = .slice A8 0 c8 ∧ c8 ≤ maxLen := by
            obtain ⟨A8, c8, e8, _, h8, _⟩ := HI.out.path.form
            exact ⟨A8, c8, by rw [e8, hp]; rfl, h8⟩
          obtain ⟨A8, c8, rfl, h8⟩ := hform
          unfold maxLen at h8
          have HTK : Hid (who.take (k + 1) = who.take k ++ [x]) := Lib.hid (by rw [List.take_succ_eq_append_getElem HLT.out, (List.getElem?_eq_some_iff.1 HX.out).2])
          have HO2 : Hid (OutI w1 m (w.heap.size + 1) G N0 who (k + 1) u5 wr) := Lib.hid (by
            obtain ⟨Ln3, c3, hn3⟩ := HI.out.met
            refine ⟨s.1, s.2.2, Ln3, c3, hn3, HI.out.left, ?_, HI.out.inv, HI.out.own, HI.out.touch, ?_, HI.out.numL⟩
            · rw [HTK.out]
              refine .snoc (i := i) HFROM.out ?_
              rw [hs0, HI.out.at_, ← hp]
            · have := HI.out.few
              have := HS0L.out
              have := HI.out.less
              have := HMU.out
              omega)
          clear hp
          go_wp2_with fail
          go_roundg (who.length - (k + 1))
          case measure => have := HLT.out; omega
          case rel => exact ⟨k + 1, HLT.out, rfl, by go_num, HO2.out⟩
        · have hq : ∃ q, s.2.1.length = q + 1 := ⟨s.2.1.length - 1, by have := List.length_pos_iff.2 hp; omega⟩
          obtain ⟨q, hq⟩ := hq
          obtain ⟨g8, c8, e8, h81, h82, hcut, hcell⟩ := HI.out.path.cut hp
          have hy : s.2.1[q]? = some (s.2.1.getLast hp) := by rw [List.getLast_eq_getElem, List.getElem?_eq_getElem (by omega)]; simp [hq]
          have hyr := HI.out.numP _ (List.getLast_mem hp)
          have hgl : s.2.1.getLast? = some (s.2.1.getLast hp) := List.getLast?_eq_some_getLast hp
          have k8 := hcell q _ hy
          have hql : (q : Int) + 1 ≤ 9223372036854775807 := by unfold maxLen at h82; omega
          rw [hq] at e8 h81 hcut
          subst e8
          generalize s.2.1.getLast hp = y at *
          have HCUT := Lib.hid hcut
          have HGL := Lib.hid hgl
          have HYR := Lib.hid hyr
          have HP := Lib.hid hp
          have HQ := Lib.hid hq
          have b0 : wr.cell? ⟨w.heap.size, 0, none⟩ = some (.map (some g)) := (World.cell?_of_block (a := ⟨w.heap.size, 0, none⟩) (HI.out.touch.block w.heap.size (by have := HSZ.out; omega) (fun e => by have e : w.heap.size = m := e; omega))).trans HS0.out
          have b1 : wr.cell? ⟨w.heap.size, 1, none⟩ = some (.map (some m)) := (World.cell?_of_block (a := ⟨w.heap.size, 1, none⟩) (HI.out.touch.block w.heap.size (by have := HSZ.out; omega) (fun e => by have e : w.heap.size = m := e; omega))).trans HS1.out
          have hga := HGA.out.touch HI.out.touch (fun e => hmg (Eq.symm e)) HMO.out
          obtain ⟨v0, hv0, lkA, hown0⟩ := hga.look keyedI Try.underlying66 zeroI (keyI hyr)
          have lk0 := lkA wr rfl
          clear lkA
          have hv0m : v0.ownBlock ≠ some m := fun e => by
            obtain ⟨e', he', hk'⟩ := hown0 m e
            exact HMO.out e' he' m hk' rfl
          have HV0L : Hid (∀ k, v0.ownBlock = some k → k < w.heap.size) := Lib.hid (fun k hk => by
            obtain ⟨e', he', hk'⟩ := hown0 k hk
            exact HML.out e' he' k hk')
          obtain ⟨Ln3, c3, hn3⟩ := HI.out.met
          obtain ⟨hlkn, hputn⟩ := hn3.bump keyedI Try.underlying69 zeroN (keyI hyr)
          have lkn := (hlkn wr rfl).1
          have hnv := HI.out.inv y
          obtain ⟨nn, hnn⟩ : ∃ nn : Nat, getN s.1 y = nn := ⟨(getN s.1 y).toNat, by omega⟩
          rw [hnn] at lkn hnv
          have HV0 := Lib.hid hv0
          have HV0M := Lib.hid hv0m
          obtain ⟨A0, c0, e0, hc01, hc02, _⟩ := hv0.form
          subst e0
          have HMU3 : Hid (InvP G (stepP G s).1 ∧ mu G (stepP G s) + 1 ≤ mu G s) := Lib.hid (step_mu HGA.out.nodup HI.out.inv hp)
          have HNN := Lib.hid hnn
          have HPUT := Lib.hid hputn
          have HN3 := Lib.hid hn3
          unfold maxLen at hc02
          clear hcut hgl hyr hp hcell hy hq hga hv0 hown0 hv0m hn3 hlkn hputn hnn
          unfold maxLen at h82
          by_cases hend : nn = (at_ G y).length
          · have q4 : (nn : Int) = ((at_ G y).length : Int) := by rw [hend]
            have hst : stepP G s = (s.1, s.2.1.dropLast, s.2.2 ++ [y]) := by
              unfold stepP
              rw [HGL.out]
              show (if getN s.1 y = _ then _ else _) = _
              rw [if_pos (by rw [HNN.out]; exact q4)]
            have HST := Lib.hid hst
            have hleft : s.2.2.length ≤ 16777000 := by
              have := HI.out.few
              have := HS0L.out
              have := HI.out.less
              have := HMU.out
              omega
            obtain ⟨v5, w5, hr5, hv5, ht5, ho5⟩ := app_int y 30 HI.out.left hleft
            have HIN2 : Hid (InnI w1 m (w.heap.size + 1) G s0 (i + 1) (stepP G s) (.slice (some ⟨g8, 0, none⟩) q c8) v5 w5) := Lib.hid (by
              have hm3 := HMU3.out
              rw [hst] at hm3 ⊢
              have hap := HI.out.apart g8 rfl
              refine ⟨by show stepP G (stepsP G i s0) = _; rw [HI.out.at_, hst], by have := HI.out.less; omega, ⟨Ln3, c3, HN3.out.keep (ht5.block m HN3.out.map.lt (fun e => by have := HI.out.own m e; omega))⟩, ?_, hv5, ?_, ?_, hm3.1, ?_, ?_, ?_, ?_⟩
              · exact HCUT.out.touch ht5 (fun b hb e => by cases hb; exact hap.2 e)
              · intro b hb
                cases hb
                refine ⟨hap.1, fun e => ?_⟩
                rcases ho5 _ e with e | e
                · exact hap.2 e
                · exact absurd (HCUT.out.lt _ rfl) (Nat.not_lt.2 e)
              · intro b hb
                rcases ho5 b hb with e | e
                · exact HI.out.own b e
                · have := HI.out.touch.size; have := HSZ.out; omega
              · exact HI.out.touch.trans ht5 (fun b hb e => by have := HI.out.own b e; have := HSZ.out; omega)
              · have := HI.out.few
                show (s.2.2 ++ [y]).length ≤ _
                rw [List.length_append, List.length_singleton]
                omega
              · exact fun z hz => HI.out.numP z ((List.dropLast_sublist _).subset hz)
              · intro z hz
                rcases List.mem_append.1 hz with h | h
                · exact HI.out.numL z h
                · rw [List.mem_singleton] at h; rw [h]; exact HYR.out)
            clear hst hend hv5 ht5 ho5 hleft
            go_wp2_with (first | (at_lookup; first | (refine wpList_look_run rfl _ _ _ _ rfl rfl rfl lk0 ?_) | (refine wpList_look_run rfl _ _ _ _ rfl rfl rfl lkn ?_)) | (at_builtin; refine wpList_app_run rfl _ _ _ _ rfl rfl rfl hr5 ?_))
            go_roundg (mu G (stepP G s))
            case measure => have := HMU3.out.2; have := HMU2.out; omega
            case rel => exact ⟨i + 1, stepP G s, rfl, HIN2.out⟩
          · have hlt2 : nn < (at_ G y).length := by omega
            have hz : (at_ G y)[nn]? = some (at_ G y)[nn] := List.getElem?_eq_getElem hlt2
            have hzr : InR64 (at_ G y)[nn] := by
              have hmem := List.getElem_mem hlt2
              generalize (at_ G y)[nn] = z at hmem
              unfold at_ at hmem
              cases hf : G.find? (fun e => e.1 == y) with
              | none => rw [hf] at hmem; cases hmem
              | some e =>
                rw [hf] at hmem
                exact HGR.out e (List.mem_of_find?_eq_some hf) z hmem
            generalize (at_ G y)[nn] = z at hz hzr
            obtain ⟨w3, L3, c4, hr3, hn4, ht3⟩ := HPUT.out wr ((nn : Int) + 1) rfl
            have hst : stepP G s = ((meetP (putN s.1 y ((nn : Int) + 1)) s.2.1 z).1, (meetP (putN s.1 y ((nn : Int) + 1)) s.2.1 z).2, s.2.2) := by
              unfold stepP
              rw [HGL.out]
              show (if getN s.1 y = _ then _ else _) = _
              rw [if_neg (by rw [HNN.out]; omega), HNN.out]
              have : (at_ G y).getD ((nn : Int)).toNat 0 = z := by
                rw [Int.toNat_natCast, List.getD_eq_getElem?_getD, hz]; rfl
              rw [this]
            have hgm : m < w.heap.size + 1 := by omega
            have hap := HI.out.apart g8 rfl
            have hp3 : RowIs w3 1 (.slice (some ⟨g8, 0, none⟩) (q + 1) c8) s.2.1.length (ints s.2.1) := HI.out.path.touch ht3 (fun b hb e => by cases hb; have e : g8 = m := e; omega)
            have hfew : s.2.1.length ≤ 1000000 := by
              have h1 : s.2.1.length ≤ mu G s := Nat.le_add_left _ _
              have := HI.out.less
              have := HMU.out
              omega
            have HM2 := Lib.hid (meet_any (g := g) (x := z) (w := w3.drew) (hn4.keep rfl) (hp3.below (below_drew (Below.refl _ _))) (fun e => by have e : some g8 = some m := e; injection e with e; omega) hzr hfew)
            obtain ⟨A1, c1', e1', _, _, _, _, hc1'⟩ := (HV0.out.touch ht3 (fun b hb e => HV0M.out (by rw [hb, e]))).form
            injection e1' with e2 _ e4
            subst e2 e4
            obtain ⟨g0, rfl, kz⟩ := hc1' nn (.int .i64 z) (by unfold ints; rw [List.getElem?_map, hz]; rfl)
            have d0 : w3.cell? ⟨w.heap.size, 0, none⟩ = some (.map (some g)) := (World.cell?_of_block (a := ⟨w.heap.size, 0, none⟩) (ht3.block w.heap.size (by have := HI.out.touch.size; have := HSZ.out; omega) (fun e => by have e : w.heap.size = m := e; omega))).trans b0
            have d1 : w3.cell? ⟨w.heap.size, 1, none⟩ = some (.map (some m)) := (World.cell?_of_block (a := ⟨w.heap.size, 1, none⟩) (ht3.block w.heap.size (by have := HI.out.touch.size; have := HSZ.out; omega) (fun e => by have e : w.heap.size = m := e; omega))).trans b1
            have hg0 : g0 < w.heap.size := HV0L.out g0 rfl
            have hg0m : g0 ≠ m := fun e => HV0M.out (by rw [e]; rfl)
            have hB : w.heap.size < w3.heap.size := by have := ht3.size; have := HI.out.touch.size; have := HSZ.out; omega
            have HC : Hid (∀ W : World, Touch (fun k => k = m ∨ (Value.slice (some ⟨g8, 0, none⟩) (q + 1) c8).ownBlock = some k) w3.drew W → W.cell? ⟨w.heap.size, 0, none⟩ = some (.map (some g)) ∧ W.cell? ⟨w.heap.size, 1, none⟩ = some (.map (some m)) ∧ W.cell? ⟨g0, nn, none⟩ = some (.int .i64 z)) := Lib.hid (fun W ht => by
              have e1 : W.heap[w.heap.size]? = w3.drew.heap[w.heap.size]? := ht.block w.heap.size hB (fun e => by
                rcases e with e | e
                · omega
                · have e : some g8 = some w.heap.size := e
                  injection e with e
                  omega)
              have e2 : W.heap[g0]? = w3.drew.heap[g0]? := ht.block g0 (Nat.lt_trans hg0 hB) (fun e => by
                rcases e with e | e
                · exact hg0m e
                · have e : some g8 = some g0 := e
                  injection e with e
                  omega)
              exact ⟨(World.cell?_of_block (a := ⟨w.heap.size, 0, none⟩) e1).trans d0, (World.cell?_of_block (a := ⟨w.heap.size, 1, none⟩) e1).trans d1, (World.cell?_of_block (a := ⟨g0, nn, none⟩) e2).trans kz⟩)
            have HT3 := Lib.hid ht3
            have HST := Lib.hid hst
            have HZR := Lib.hid hzr
            have HAP := Lib.hid hap
            have q5 : ((nn : Int) == ((at_ G y).length : Int)) = false := by rw [beq_eq_false_iff_ne]; omega
            have q6 : (nn : Int) < ((at_ G y).length : Int) := by omega
            have q7 : (nn : Int) + 1 ≤ 9223372036854775807 := by omega
            clear hst hz hzr hn4 ht3 hp3 hfew hc1' hend hlt2 hnv hap hg0 hg0m hB
            go_wp2_with (first | (at_lookup; first | (refine wpList_look_run rfl _ _ _ _ rfl rfl rfl lk0 ?_) | (refine wpList_look_run rfl _ _ _ _ rfl rfl rfl lkn ?_)) | (at_mapUpdate; refine wpList_put_run rfl _ _ _ _ rfl rfl rfl rfl hr3 ?_))
            clear hr3 lk0 lkn
            go_region_held (fun W => W.cell? ⟨w.heap.size, 0, none⟩ = some (.map (some g)) ∧ W.cell? ⟨w.heap.size, 1, none⟩ = some (.map (some m)) ∧ W.cell? ⟨g0, nn, none⟩ = some (.int .i64 z)) (first | exact ⟨d0, d1, kz⟩ | assumption) (first | (go_at_call 44; refine (HM2.out).mono ?_; rintro e w6 ⟨v6, L6, c6, rfl, hn6, hp6, ho6, ht6⟩; have hcond := HC.out _ ht6))
            have HIN3 : Hid (InnI w1 m (w.heap.size + 1) G s0 (i + 1) (stepP G s) v6 u5 w6) := Lib.hid (by
              have hm3 := HMU3.out
              have hT3 := HT3.out
              have hap := HAP.out
              have hsz1 := HSZ.out
              have hs1 := HI.out.touch.size
              have ht6' : Touch (fun k => k = m ∨ (Value.slice (some ⟨g8, 0, none⟩) (q + 1) c8).ownBlock = some k) w3 w6 := ⟨ht6.os, ht6.tape, ht6.output, ht6.size, ht6.block⟩
              have hstep : stepsP G (i + 1) s0 = stepP G s := by show stepP G (stepsP G i s0) = _; rw [HI.out.at_]
              have hl1 : RowIs w3 1 u5 s.2.2.length (ints s.2.2) := HI.out.left.touch hT3 (fun b hb e => by have := HI.out.own b hb; have e : b = m := e; omega)
              rw [HST.out] at hm3 hstep ⊢
              refine ⟨hstep, by have := HI.out.less; omega, ⟨L6, c6, hn6⟩, hp6, ?_, ?_, HI.out.own, hm3.1, ?_, ?_, ?_, HI.out.numL⟩
              · exact hl1.touch ht6' (fun b hb e => by
                  rcases e with e | e
                  · have := HI.out.own b hb; omega
                  · have e : some g8 = some b := e
                    injection e with e
                    exact hap.2 (by rw [hb, e]))
              · intro b hb
                rcases ho6 b hb with e | e
                · have e : some g8 = some b := e
                  injection e with e
                  rw [← e]
                  exact hap
                · have e : w3.heap.size ≤ b := e
                  have := hT3.size
                  exact ⟨by omega, fun e' => by have := HI.out.left.lt b e'; omega⟩
              · exact (HI.out.touch.trans hT3 (fun _ _ h => h)).trans ht6' (fun b hb e => by
                  rcases e with e | e
                  · exact e
                  · have e : some g8 = some b := e
                    injection e with e
                    omega)
              · have := HI.out.few
                show s.2.2.length ≤ _
                omega
              · intro y' hy'
                rcases meet_mem hy' with h | h
                · exact HI.out.numP y' h
                · rw [h]; exact HZR.out)
            clear hcond hn6 hp6 ho6 ht6 d0 d1 kz
            go_wp2_with fail
            go_roundg (mu G (stepP G s))
            case measure => have := HMU3.out.2; have := HMU2.out; omega
            case rel => exact ⟨i + 1, stepP G s, rfl, HIN3.out⟩
    · obtain rfl : k = who.length := by omega
      clear hlt hk hn
      go_wp2_with fail
      go_ret
      obtain ⟨N, left, Ln1, c1, hn1, hleft, hfrom, hinv, hown, htch, hfew, hnum⟩ := HO.out
      rw [List.take_length] at hfrom
      exact ⟨_, N, left, Ln1, c1, rfl, hn1, hleft, hfrom, hinv, fun b hb => by have := hown b hb; omega, Touch.ahead HBX.out htch, hfew, hnum⟩
end Go.Proofs.Ytlbhpeeggbfcpaa
