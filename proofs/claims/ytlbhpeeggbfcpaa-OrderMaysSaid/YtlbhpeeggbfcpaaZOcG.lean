/- order: the document's own Waits. -/
import Derived.Test.YtlbhpeeggbfcpaaZOcF
import Derived.Test.YtlbhpeeggbfcpaaZOrdI
set_option linter.unusedSimpArgs false
set_option linter.unusedVariables false
set_option linter.unnecessarySimpa false
namespace Go.Proofs.Ytlbhpeeggbfcpaa
open Go.RowKit

theorem infoEd : (Try.prog.info? 40).map (fun i => (i.zero, i.size, i.bytes)) = some (some (.agg #[.int .i64 0, .int .i64 0]), 2, 16) := by kernel_rfl
theorem app_edgeR {w : World} {v : Value} {l : List (Int × Int)} (x y : Int) (ty : TypeId) (h : RowIs w 2 v l.length (edgesC l)) (hl : l.length ≤ 1000000) : ∃ v' w', (Builtin.append_ #[35, 35] ty #[v, .slice (some ⟨w.heap.size, 0, none⟩) 1 1]).run Try.prog (w.alloc (.cells #[.int .i64 x, .int .i64 y] 40)) = .ok v' w' ∧ RowIs w' 2 v' (l ++ [(x, y)]).length (edgesC (l ++ [(x, y)])) ∧ Touch (fun k => v.ownBlock = some k) w w' ∧ (∀ k, v'.ownBlock = some k → v.ownBlock = some k ∨ w.heap.size ≤ k) := by
  have hb := below_new (w := w) (.cells #[.int .i64 x, .int .i64 y] 40)
  have hsrc : Src Try.prog 2 35 (.slice (some ⟨w.heap.size, 0, none⟩) 1 1) 1 [.int .i64 x, .int .i64 y] (w.alloc (.cells #[.int .i64 x, .int .i64 y] 40)) :=
    Src.ofSlice _ Try.underlying35 ⟨w.heap.size, 0, none⟩ 1 1 [.int .i64 x, .int .i64 y] rfl (fun j u hu => by
      rw [add0, cell_of (alloc_at w _)]
      simpa using hu) (by simp [Value.oneCell'])
  obtain ⟨v', w', hr, h2, h3, h4⟩ := run_append_row (w.alloc (.cells #[.int .i64 x, .int .i64 y] 40)) 35 40 ty 35 Try.underlying35 infoEd rfl (by omega) (by omega) v l.length 1 (edgesC l) [.int .i64 x, .int .i64 y] _ (h.below hb) hsrc (by omega)
  refine ⟨v', w', hr, by rw [List.length_append, edgesC_snoc]; exact h2, (Touch.of_below hb).grown h3 (fun k hk _ => hk), fun k hk => ?_⟩
  rcases h4 with e | e
  · exact .inl (e ▸ hk)
  · right
    rw [e] at hk
    have := Option.some.inj hk
    rw [asz] at this
    omega
def cW (f t : Int) (u v : Int × List Int) (s : Int) : Bool := u.1 == f && v.1 == t && decide (t < f) && v.2.contains s
theorem share_c (l : Gr) (f t : Int) : shareB l f t = l.any fun u => l.any fun v => u.2.any (cW f t u v) := rfl
def oF (l : Gr) (al : List Int) (i : Nat) : List (Int × Int) := (al.take i).flatMap fun f => (al.filter fun t => shareB l f t).map fun t => (f, t)
def oT (l : Gr) (al : List Int) (i : Nat) (f : Int) (j : Nat) : List (Int × Int) := oF l al i ++ ((al.take j).filter fun t => shareB l f t).map fun t => (f, t)
theorem any_take {α : Type} {p : α → Bool} {l : List α} {k : Nat} {x : α} (h : l[k]? = some x) : (l.take (k + 1)).any p = ((l.take k).any p || p x) := by rw [List.take_add_one, h, List.any_append]; simp
theorem oT_next {l : Gr} {al : List Int} {i : Nat} {f : Int} (h : al[i]? = some f) : oT l al i f al.length = oF l al (i + 1) := by
  unfold oT oF
  rw [List.take_length, List.take_add_one, h, List.flatMap_append]
  simp
theorem oT_step {l : Gr} {al : List Int} {i j : Nat} {f t : Int} (h : al[j]? = some t) : oT l al i f (j + 1) = oT l al i f j ++ (if shareB l f t then [(f, t)] else []) := by
  unfold oT
  rw [List.take_add_one, h, List.filter_append, List.map_append, List.append_assoc]
  cases hs : shareB l f t <;> simp [hs]
theorem oF_len {l : Gr} {al : List Int} (h : al.length ≤ 10) (i : Nat) : (oF l al i).length ≤ i * 10 := by
  induction i with
  | zero => simp [oF]
  | succ i ih =>
    unfold oF at ih ⊢
    rw [List.take_add_one, List.flatMap_append, List.length_append]
    cases hx : al[i]? with
    | none => rw [show (none : Option Int).toList = [] from rfl, List.flatMap_nil, List.length_nil]; omega
    | some f =>
      have h1 : (al.filter fun t => shareB l f t).length ≤ al.length := List.length_filter_le _ _
      rw [show (some f).toList = [f] from rfl, List.flatMap_singleton, List.length_map]
      omega
theorem oT_len {l : Gr} {al : List Int} (h : al.length ≤ 10) (i : Nat) (f : Int) (j : Nat) : (oT l al i f j).length ≤ i * 10 + 10 := by
  unfold oT
  have h1 := oF_len (l := l) h i
  have h2 : ((al.take j).filter fun t => shareB l f t).length ≤ (al.take j).length := List.length_filter_le _ _
  rw [List.length_take] at h2
  rw [List.length_append, List.length_map]
  omega
set_option maxRecDepth 100000 in
set_option maxHeartbeats 4000000 in
theorem RWaits_any {w : World} {v : Value} {l : Gr} (h : UIs w v l) (hl : l.length ≤ 10) (hs : ∀ u ∈ l, u.2.length ≤ 6) : Calls Try.prog 11 #[v] w fun e w' => ∃ v', e = .returned v' ∧ EIs w' v' (waitsP l) ∧ Below w.heap.size w w' := by
  obtain ⟨A, cap, rfl, h1, h2, _⟩ := id h
  unfold maxLen at h2
  have hlI : (l.length : Int) ≤ 1000 := by omega
  have HH := Lib.hid h
  have HS := Lib.hid hs
  clear h hs
  go_enter Try.func11, Try.ntmps11
  go_wp2_with fail
  go_loopw [3, 20] (fun av iv wr => ∃ k : Nat, k ≤ l.length ∧ iv = .int .i64 k ∧ RowIs wr 1 av (allU (l.take k)).length (ints (allU (l.take k))) ∧ (∀ b, av.ownBlock = some b → w.heap.size ≤ b) ∧ Below w.heap.size w wr) (fun _ iv _ => l.length - (intOf iv).toNat)
  case atStart => exact ⟨0, Nat.zero_le _, rfl, RowIs.nil _ _, (fun b e => by cases e), Below.refl _ _⟩
  case round =>
    obtain ⟨k, hk, rfl, hr, ho, hb⟩ := hrel
    by_cases hlt : k < l.length
    · have hx : l[k]? = some l[k] := List.getElem?_eq_getElem hlt
      generalize l[k] = u at hx
      obtain ⟨_, _, e', _, _, h4⟩ := HH.out.below hb
      injection e' with e1 _ e3
      subst e1 e3
      obtain ⟨a, sv, rfl, ha, k0', k1', hsv⟩ := h4 k u hx
      obtain ⟨x, sl⟩ := u
      obtain ⟨B, scap, rfl, hs1, hs2, _⟩ := id hsv
      have k0 : wr.cell? (a.add (k * 2)) = some (.int .i64 x) := k0'
      have k1 : wr.cell? ⟨(a.add (k * 2)).block, (a.add (k * 2)).off + 1, none⟩ = some (.slice B sl.length scap) := k1'
      have hi : (k : Int) < (l.length : Int) := by omega
      have hbn := below_new (w := wr) (.cells #[.int .i64 x, .slice B sl.length scap] 32)
      have hlen : (allU (l.take k)).length ≤ 10 := by have := (allU_holds (l.take k)).2.2; rw [List.length_take] at this; omega
      have HIN := Lib.hid (into_any (n := x) (hr.below hbn) (by omega))
      rw [← show allU (l.take (k + 1)) = intoP (allU (l.take k)) x from foldl_take _ _ hx] at HIN
      have HB := Lib.hid (hb.trans (hbn.mono hb.size))
      have HZ := Lib.hid (Nat.le_trans hb.size hbn.size)
      have HLT := Lib.hid hlt
      clear h4 k0' k1' hsv hr ho hb hbn hlt hk hx hlen hs1 hs2
      go_wp2_with fail
      refine (HIN.out).mono ?_
      rintro e w2 ⟨v2, rfl, hr2, ho2, hb2⟩
      have HF := Lib.hid (And.intro hr2 (And.intro (show ∀ b, v2.ownBlock = some b → w.heap.size ≤ b from fun b e => Nat.le_trans HZ.out (ho2 b e)) (HB.out.trans (hb2.mono HB.out.size))))
      clear hr2 ho2 hb2 HIN
      go_wp2_with fail
      go_roundw
      case rel => exact ⟨k + 1, HLT.out, by go_num, HF.out⟩
      case measure => have := HLT.out; simp [intOf]; omega
    · obtain rfl : k = l.length := by omega
      rw [List.take_length] at hr
      have hall : (allU l).length ≤ 10 := by have := (allU_holds l).2.2; omega
      obtain ⟨Aa, ca, rfl, _⟩ := id hr.form
      have HALL := Lib.hid hall
      have HR := Lib.hid hr
      have HO := Lib.hid ho
      have HB := Lib.hid hb
      have hallI : ((allU l).length : Int) ≤ 10 := by omega
      obtain ⟨al, hal⟩ : ∃ al, al = allU l := ⟨_, rfl⟩
      rw [← hal] at HALL HR HO hallI ⊢
      have HAL := Lib.hid hal
      clear hlt hk hr ho hb hall hal
      generalize wr = wa at *
      go_wp2_with fail
      go_loopw [6, 31] (fun ov iv wx => ∃ i : Nat, i ≤ al.length ∧ iv = .int .i64 i ∧ RowIs wx 2 ov (oF l al i).length (edgesC (oF l al i)) ∧ (∀ b, ov.ownBlock = some b → wa.heap.size ≤ b) ∧ Below wa.heap.size wa wx) (fun _ iv _ => al.length - (intOf iv).toNat)
      case atStart => exact ⟨0, Nat.zero_le _, rfl, RowIs.nil _ _, (fun b e => by cases e), Below.refl _ _⟩
      case round =>
        obtain ⟨i, hil, rfl, hr, ho, hb⟩ := hrel
        by_cases hlt : i < al.length
        · have hx : al[i]? = some al[i] := List.getElem?_eq_getElem hlt
          generalize al[i] = f at hx
          obtain ⟨_, _, e', _, _, _, _, hc⟩ := (HR.out.below hb).form
          injection e' with e1 _ e3
          subst e1 e3
          obtain ⟨ga, rfl, k0⟩ := hc i (.int .i64 f) (by unfold ints; rw [List.getElem?_map, hx]; rfl)
          have hi : (i : Int) < (al.length : Int) := by omega
          have HRi := Lib.hid hr
          have HOi := Lib.hid ho
          have HBi := Lib.hid hb
          have HLi := Lib.hid hlt
          have HX := Lib.hid hx
          clear hr ho hb hil hlt hx hc
          generalize wr = wi at *
          go_wp2_with fail
          go_loopw [6, 37] (fun ov jv wx => ∃ j : Nat, j ≤ al.length ∧ jv = .int .i64 j ∧ RowIs wx 2 ov (oT l al i f j).length (edgesC (oT l al i f j)) ∧ (∀ b, ov.ownBlock = some b → wa.heap.size ≤ b) ∧ Below wa.heap.size wa wx) (fun _ jv _ => al.length - (intOf jv).toNat)
          case atStart => exact ⟨0, Nat.zero_le _, rfl, by unfold oT; simpa using HRi.out, HOi.out, HBi.out⟩
          case round =>
            obtain ⟨j, hjl, rfl, hr, ho, hb⟩ := hrel
            by_cases hlt : j < al.length
            · have hx : al[j]? = some al[j] := List.getElem?_eq_getElem hlt
              generalize al[j] = t at hx
              obtain ⟨_, _, e', _, _, _, _, hc⟩ := (HR.out.below hb).form
              injection e' with e1 _ e3
              subst e3
              obtain ⟨ga2, eg, k0⟩ := hc j (.int .i64 t) (by unfold ints; rw [List.getElem?_map, hx]; rfl)
              rw [← e1] at eg
              injection eg with eg
              injection eg with eg
              subst eg e1
              have hj : (j : Int) < (al.length : Int) := by omega
              have HRj := Lib.hid hr
              have HOj := Lib.hid ho
              have HBj := Lib.hid hb
              have HLj := Lib.hid hlt
              have HY := Lib.hid hx
              have HUj := Lib.hid (HH.out.below (HB.out.trans (hb.mono HB.out.size)))
              clear hr ho hb hjl hlt hx hc
              generalize wr = wj at *
              go_wp2_with fail
              go_loopw [11, 43] (fun bv iv wx => ∃ (a : Nat) (B : Bool), a ≤ l.length ∧ iv = .int .i64 a ∧ bv = .bool B ∧ B = ((l.take a).any fun u => l.any fun v => u.2.any (cW f t u v)) ∧ Below wj.heap.size wj wx) (fun _ iv _ => l.length - (intOf iv).toNat)
              case atStart => exact ⟨0, false, Nat.zero_le _, rfl, rfl, rfl, Below.refl _ _⟩
              case round =>
                obtain ⟨a, B1, hal', rfl, rfl, hB1, hb⟩ := hrel
                by_cases hlt : a < l.length
                · have hx : l[a]? = some l[a] := List.getElem?_eq_getElem hlt
                  have hs6 := HS.out _ (List.getElem_mem hlt)
                  generalize l[a] = u at hx hs6
                  obtain ⟨_, _, e', _, _, h4⟩ := HUj.out.below hb
                  injection e' with e1 _ e3
                  subst e1 e3
                  obtain ⟨aa, sv, rfl, ha, p0, p1', hsv⟩ := h4 a u hx
                  obtain ⟨x, sl⟩ := u
                  have hs6 : sl.length ≤ 6 := hs6
                  obtain ⟨Bu, cu, rfl, hs1, hs2, _⟩ := id hsv
                  have p1 : wr.cell? ⟨(aa.add (a * 2)).block, (aa.add (a * 2)).off + 1, none⟩ = some (.slice Bu sl.length cu) := p1'
                  have hai : (a : Int) < (l.length : Int) := by omega
                  have hsI : (sl.length : Int) ≤ 6 := by omega
                  have hbn := below_new (w := wr) (.cells #[.int .i64 x, .slice Bu sl.length cu] 32)
                  have hat := alloc_at wr (.cells #[.int .i64 x, .slice Bu sl.length cu] 32)
                  have hzz := asz wr (.cells #[.int .i64 x, .slice Bu sl.length cu] 32)
                  have HVa := Lib.hid (hsv.below hbn)
                  have HBa := Lib.hid (hb.trans (hbn.mono hb.size))
                  have HUa := Lib.hid ((HUj.out.below hb).below hbn)
                  have HLa := Lib.hid hlt
                  have HXa := Lib.hid hx
                  have HB1 := Lib.hid hB1
                  have HATa := Lib.hid hat
                  have HZa := Lib.hid hzz
                  clear h4 p1' hsv hx hb hal' hlt hbn hs1 hs2 hB1 hat hzz
                  go_wp2_with fail
                  generalize wr.alloc (.cells #[.int .i64 x, .slice Bu sl.length cu] 32) = WU at *
                  generalize wr.heap.size = zu at *
                  clear p0 p1
                  go_loopw [11, 49] (fun bv iv wx => ∃ (b : Nat) (B : Bool), b ≤ l.length ∧ iv = .int .i64 b ∧ bv = .bool B ∧ B = (B1 || (l.take b).any fun v => sl.any (cW f t (x, sl) v)) ∧ Below WU.heap.size WU wx) (fun _ iv _ => l.length - (intOf iv).toNat)
                  case atStart => exact ⟨0, B1, Nat.zero_le _, rfl, rfl, by simp, Below.refl _ _⟩
                  case round =>
                    obtain ⟨b, B2, hbl, rfl, rfl, hB2, hb⟩ := hrel
                    have hboxu := (hb.block zu (by have := HZa.out; omega)).trans HATa.out
                    by_cases hlt : b < l.length
                    · have hx : l[b]? = some l[b] := List.getElem?_eq_getElem hlt
                      have hv6 := HS.out _ (List.getElem_mem hlt)
                      generalize l[b] = v at hx hv6
                      obtain ⟨_, _, e', _, _, h4⟩ := HUa.out.below hb
                      injection e' with e1 _ e3
                      subst e3
                      obtain ⟨ab, sv, eab, ha, p0, p1', hsv⟩ := h4 b v hx
                      rw [← e1] at eab
                      injection eab with eab
                      subst eab e1
                      obtain ⟨y, sm⟩ := v
                      have hv6 : sm.length ≤ 6 := hv6
                      obtain ⟨Bv, cv, rfl, hs1, hs2, _⟩ := id hsv
                      have p1 : wr.cell? ⟨(aa.add (b * 2)).block, (aa.add (b * 2)).off + 1, none⟩ = some (.slice Bv sm.length cv) := p1'
                      have hbi : (b : Int) < (l.length : Int) := by omega
                      have hbn := below_new (w := wr) (.cells #[.int .i64 y, .slice Bv sm.length cv] 32)
                      have hat := alloc_at wr (.cells #[.int .i64 y, .slice Bv sm.length cv] 32)
                      have hzz := asz wr (.cells #[.int .i64 y, .slice Bv sm.length cv] 32)
                      have hboxu2 := (hbn.block zu (heap_lt hboxu)).trans hboxu
                      have HVb := Lib.hid (hsv.below hbn)
                      have HVu := Lib.hid ((HVa.out.below hb).below hbn)
                      have HBb := Lib.hid (hb.trans (hbn.mono hb.size))
                      have HLb := Lib.hid hlt
                      have HXb := Lib.hid hx
                      have HB2 := Lib.hid hB2
                      have HATb := Lib.hid hat
                      have HATu := Lib.hid hboxu2
                      have HZb : Hid (wr.heap.size < (wr.alloc (.cells #[.int .i64 y, .slice Bv sm.length cv] 32)).heap.size) := Lib.hid (by rw [hzz]; omega)
                      have d1 := cell_of hboxu2 1
                      have d0 := cell_of hboxu2 0
                      simp at d1 d0
                      clear h4 p1' hsv hx hb hbl hlt hbn hs1 hs2 hB2 hat hzz hboxu
                      go_wp2_with fail
                      generalize wr.alloc (.cells #[.int .i64 y, .slice Bv sm.length cv] 32) = WV at *
                      generalize wr.heap.size = zv at *
                      clear p0 p1 d0 d1 hboxu2
                      go_loopw [11, 56] (fun bv iv wx => ∃ (c : Nat) (B : Bool), c ≤ sl.length ∧ iv = .int .i64 c ∧ bv = .bool B ∧ B = (B2 || (sl.take c).any (cW f t (x, sl) (y, sm))) ∧ Below WV.heap.size WV wx) (fun _ iv _ => sl.length - (intOf iv).toNat)
                      case atStart => exact ⟨0, B2, Nat.zero_le _, rfl, rfl, by simp, Below.refl _ _⟩
                      case round =>
                        obtain ⟨c, B3, hcl, rfl, rfl, hB3, hb⟩ := hrel
                        by_cases hlt : c < sl.length
                        · have hx : sl[c]? = some sl[c] := List.getElem?_eq_getElem hlt
                          generalize sl[c] = s at hx
                          obtain ⟨_, _, e', _, _, h4⟩ := HVu.out.below hb
                          injection e' with e1 _ e3
                          subst e1 e3
                          obtain ⟨sa, rfl, _, p0⟩ := h4 c s hx
                          have hci : (c : Int) < (sl.length : Int) := by omega
                          have hbu := (hb.block zu (heap_lt HATu.out)).trans HATu.out
                          have hbv := (hb.block zv HZb.out).trans HATb.out
                          have d0 := cell_of hbu 0
                          have d1 := cell_of hbu 1
                          have g0 := cell_of hbv 0
                          have g1 := cell_of hbv 1
                          simp at d0 d1 g0 g1
                          have HHS := Lib.hid (hasS_any (n := s) (HVb.out.below hb) (by omega))
                          have hnext : (B2 || (sl.take (c + 1)).any (cW f t (x, sl) (y, sm))) = (B3 || cW f t (x, sl) (y, sm) s) := by rw [any_take hx, hB3, Bool.or_assoc]
                          have HNX := Lib.hid hnext
                          have HBc := Lib.hid hb
                          have HLc := Lib.hid hlt
                          clear h4 hx hb hcl hlt hB3 hbu hbv hnext
                          cases B3 with
                          | true =>
                            go_wp2_with fail
                            go_roundw
                            case rel => exact ⟨c + 1, true, HLc.out, by go_num, rfl, by rw [HNX.out]; rfl, HBc.out⟩
                            case measure => have := HLc.out; simp [intOf]; omega
                          | false =>
                            by_cases hq1 : x = f
                            · have b1 : (x == f) = true := by rw [hq1]; exact beq_self_eq_true _
                              by_cases hq2 : y = t
                              · have b2 : (y == t) = true := by rw [hq2]; exact beq_self_eq_true _
                                by_cases hq3 : t < f
                                · obtain ⟨h, hh⟩ : ∃ h, decide (s ∈ sm) = h := ⟨_, rfl⟩
                                  rw [hh] at HHS
                                  have HC : Hid (cW f t (x, sl) (y, sm) s = h) := Lib.hid (by unfold cW; rw [b1, b2, decide_eq_true hq3, List.contains_eq_mem, hh]; rfl)
                                  clear hq1 hq2 hh
                                  go_wp2_with fail
                                  refine (HHS.out).mono ?_
                                  rintro e w5 ⟨rfl, hb5⟩
                                  have HB5 := Lib.hid (HBc.out.trans (hb5.mono HBc.out.size))
                                  clear hb5 HHS
                                  go_wp2_with fail
                                  go_roundw
                                  case rel => exact ⟨c + 1, h, HLc.out, by go_num, rfl, by rw [HNX.out, HC.out]; rfl, HB5.out⟩
                                  case measure => have := HLc.out; simp [intOf]; omega
                                · have HC : Hid (cW f t (x, sl) (y, sm) s = false) := Lib.hid (by unfold cW; rw [decide_eq_false hq3]; simp)
                                  clear hq1 hq2
                                  go_wp2_with fail
                                  go_roundw
                                  case rel => exact ⟨c + 1, false, HLc.out, by go_num, rfl, by rw [HNX.out, HC.out]; rfl, HBc.out⟩
                                  case measure => have := HLc.out; simp [intOf]; omega
                              · have b2 : (y == t) = false := by rw [beq_eq_false_iff_ne]; exact hq2
                                have HC : Hid (cW f t (x, sl) (y, sm) s = false) := Lib.hid (by unfold cW; rw [b2]; simp)
                                clear hq1 hq2
                                go_wp2_with fail
                                go_roundw
                                case rel => exact ⟨c + 1, false, HLc.out, by go_num, rfl, by rw [HNX.out, HC.out]; rfl, HBc.out⟩
                                case measure => have := HLc.out; simp [intOf]; omega
                            · have b1 : (x == f) = false := by rw [beq_eq_false_iff_ne]; exact hq1
                              have HC : Hid (cW f t (x, sl) (y, sm) s = false) := Lib.hid (by unfold cW; rw [b1]; simp)
                              clear hq1
                              go_wp2_with fail
                              go_roundw
                              case rel => exact ⟨c + 1, false, HLc.out, by go_num, rfl, by rw [HNX.out, HC.out]; rfl, HBc.out⟩
                              case measure => have := HLc.out; simp [intOf]; omega
                        · obtain rfl : c = sl.length := by omega
                          rw [List.take_length] at hB3
                          have HBF := Lib.hid (HBb.out.trans (hb.mono HBb.out.size))
                          have HN : Hid (B3 = (B1 || (l.take (b + 1)).any fun v => sl.any (cW f t (x, sl) v))) := Lib.hid (by rw [any_take HXb.out, ← Bool.or_assoc, ← HB2.out, hB3])
                          clear hb hcl hlt hB3
                          go_wp2_with fail
                          go_roundw
                          case rel => exact ⟨b + 1, B3, HLb.out, by go_num, rfl, HN.out, HBF.out⟩
                          case measure => have := HLb.out; simp [intOf]; omega
                    · obtain rfl : b = l.length := by omega
                      rw [List.take_length] at hB2
                      have HBF := Lib.hid (HBa.out.trans (hb.mono HBa.out.size))
                      have HN : Hid (B2 = ((l.take (a + 1)).any fun u => l.any fun v => u.2.any (cW f t u v))) := Lib.hid (by rw [any_take HXa.out, hB2, HB1.out])
                      clear hb hbl hlt hB2 hboxu
                      go_wp2_with fail
                      go_roundw
                      case rel => exact ⟨a + 1, B2, HLa.out, by go_num, rfl, HN.out, HBF.out⟩
                      case measure => have := HLa.out; simp [intOf]; omega
                · obtain rfl : a = l.length := by omega
                  rw [List.take_length, ← share_c] at hB1
                  obtain ⟨v', w', r1, r2, r3, r4⟩ := app_edgeR f t 35 (HRj.out.below hb) (by have := oT_len (l := l) HALL.out i f j; have := HLi.out; have := HALL.out; omega)
                  have hst := oT_step (l := l) (i := i) (f := f) HY.out
                  rw [← hB1] at hst
                  have hbb := HBj.out.trans (hb.mono HBj.out.size)
                  cases B1 with
                  | true =>
                    have HF : Hid (RowIs w' 2 v' (oT l al i f (j + 1)).length (edgesC (oT l al i f (j + 1))) ∧ (∀ b, v'.ownBlock = some b → wa.heap.size ≤ b) ∧ Below wa.heap.size wa w') := Lib.hid ⟨by rw [hst]; exact r2, fun b e => (r4 b e).elim (fun e => HOj.out b e) (fun e => Nat.le_trans hbb.size e), hbb.trans (r3.below (fun b e => HOj.out b e) hbb.size)⟩
                    obtain ⟨_, _, ev, _⟩ := HRj.out.form
                    clear hst hB1 hb hal' hlt r2 r3 r4 hbb
                    generalize (oT l al i f j).length = n at *
                    subst ev
                    go_wp2_with (at_builtin; refine wpList_app_run rfl _ _ _ _ rfl rfl rfl r1 ?_)
                    go_roundw
                    case rel => exact ⟨j + 1, HLj.out, by go_num, HF.out⟩
                    case measure => have := HLj.out; simp [intOf]; omega
                  | false =>
                    have HF : Hid (RowIs wr 2 u6 (oT l al i f (j + 1)).length (edgesC (oT l al i f (j + 1))) ∧ (∀ b, u6.ownBlock = some b → wa.heap.size ≤ b) ∧ Below wa.heap.size wa wr) := Lib.hid ⟨by rw [hst]; simpa using HRj.out.below hb, HOj.out, hbb⟩
                    clear hst hB1 hb hal' hlt r1 r2 r3 r4 hbb
                    go_wp2_with fail
                    go_roundw
                    case rel => exact ⟨j + 1, HLj.out, by go_num, HF.out⟩
                    case measure => have := HLj.out; simp [intOf]; omega
            · obtain rfl : j = al.length := by omega
              rw [oT_next HX.out] at hr
              have HF := Lib.hid (And.intro hr (And.intro ho hb))
              clear hr ho hb hjl hlt
              go_wp2_with fail
              go_roundw
              case rel => exact ⟨i + 1, HLi.out, by go_num, HF.out⟩
              case measure => have := HLi.out; simp [intOf]; omega
        · obtain rfl : i = al.length := by omega
          have hw : oF l al al.length = waitsP l := by unfold oF waitsP; rw [List.take_length, HAL.out]
          rw [hw] at hr
          have HE := Lib.hid hr.edges
          have HBF := Lib.hid (HB.out.trans (hb.mono HB.out.size))
          clear hr ho hb hil hlt hw
          go_wp2_with fail
          refine bodyPost_ret (v := u6) (by simp [results, Try.results11, go_sem]) rfl ⟨_, rfl, HE.out, HBF.out⟩
end Go.Proofs.Ytlbhpeeggbfcpaa
