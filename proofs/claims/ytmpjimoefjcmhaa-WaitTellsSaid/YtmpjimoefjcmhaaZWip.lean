/- The reference's Reach and Circles, walked. -/
import Derived.Test.YtmpjimoefjcmhaaZWio
set_option linter.unusedSimpArgs false
set_option linter.unusedVariables false
set_option linter.unnecessarySimpa false
namespace Go.Proofs.Ytmpjimoefjcmhaa
open Go.RowKit

/-- One round of the reference's Reach. -/
def grow1 (x : Int) (o : List Int) (e : Int × Int) : List Int := if e.1 = x ∨ e.1 ∈ o then intoP o e.2 else o
def growP (x : Int) (l : List (Int × Int)) (o : List Int) : List Int := l.foldl (grow1 x) o
theorem grow_take {x : Int} {l : List (Int × Int)} {o : List Int} {k : Nat} {e : Int × Int} (h : l[k]? = some e) : growP x (l.take (k + 1)) o = grow1 x (growP x (l.take k) o) e := by
  have hk := (List.getElem?_eq_some_iff.1 h).1
  unfold growP
  rw [List.take_succ_eq_append_getElem hk, (List.getElem?_eq_some_iff.1 h).2, List.foldl_append]
  rfl
/-- What a list of those that one waits for is, at any time. -/
structure GroI (l : List (Int × Int)) (x : Int) (o : List Int) : Prop where
  rise : o.Pairwise (· < ·)
  only : ∀ P : Int → Prop, (∀ y, (x, y) ∈ l → P y) → (∀ y z, P y → (y, z) ∈ l → P z) → ∀ y ∈ o, P y
theorem GroI.nil (l : List (Int × Int)) (x : Int) : GroI l x [] := ⟨List.Pairwise.nil, fun P _ _ y h => by cases h⟩
theorem GroI.one {l : List (Int × Int)} {x : Int} {o : List Int} (h : GroI l x o) {e : Int × Int} (he : e ∈ l) : GroI l x (grow1 x o e) ∧ ∀ y ∈ o, y ∈ grow1 x o e := by
  unfold grow1
  by_cases hc : e.1 = x ∨ e.1 ∈ o
  · rw [if_pos hc]
    obtain ⟨h1, h2⟩ := intoP_rise e.2 h.rise
    refine ⟨⟨h1, fun P hf hn y hy => ?_⟩, fun y hy => (h2 y).2 (.inl hy)⟩
    rcases (h2 y).1 hy with e1 | e1
    · exact h.only P hf hn y e1
    · rw [e1]
      obtain ⟨a, b⟩ := e
      rcases hc with e2 | e2
      · exact hf b (by rw [← e2]; exact he)
      · exact hn a b (h.only P hf hn a e2) he
  · rw [if_neg hc]
    exact ⟨h, fun y hy => hy⟩
theorem GroI.few {l : List (Int × Int)} {x : Int} {o : List Int} (h : GroI l x o) : o.length ≤ l.length := by
  have h1 := nodup_le (m := l.map (·.2)) (lt_le h.rise).1 (h.only (fun y => y ∈ l.map (·.2)) (fun y hy => List.mem_map.2 ⟨_, hy, rfl⟩) (fun y z _ hz => List.mem_map.2 ⟨_, hz, rfl⟩))
  rwa [List.length_map] at h1
theorem GroI.part {l : List (Int × Int)} {x : Int} {o : List Int} (h : GroI l x o) : ∀ k, GroI l x (growP x (l.take k) o) ∧ (∀ y ∈ o, y ∈ growP x (l.take k) o)
  | 0 => by
    have e : growP x (l.take 0) o = o := by unfold growP; simp
    rw [e]
    exact ⟨h, fun y hy => hy⟩
  | k + 1 => by
    obtain ⟨h1, h2⟩ := h.part k
    by_cases hk : k < l.length
    · have he : l[k]? = some l[k] := List.getElem?_eq_getElem hk
      rw [grow_take he]
      obtain ⟨h3, h4⟩ := h1.one (List.getElem_mem hk)
      exact ⟨h3, fun y hy => h4 y (h2 y hy)⟩
    · have e : l.take (k + 1) = l.take k := by rw [List.take_of_length_le (by omega), List.take_of_length_le (by omega)]
      rw [e]
      exact ⟨h1, h2⟩
/-- What an edge asks is there behind its round, whatever came behind. -/
theorem grow_has {l : List (Int × Int)} {x : Int} {o : List Int} (h : GroI l x o) {a b : Int} (he : (a, b) ∈ l) (ha : a = x ∨ a ∈ o) : b ∈ growP x l o := by
  obtain ⟨k, hk⟩ := List.getElem?_of_mem he
  have hkl := (List.getElem?_eq_some_iff.1 hk).1
  have h1 : b ∈ growP x (l.take (k + 1)) o := by
    rw [grow_take hk]
    unfold grow1
    have hc : (a, b).1 = x ∨ (a, b).1 ∈ growP x (l.take k) o := ha.imp id (fun e => (h.part k).2 a e)
    rw [if_pos hc]
    exact ((intoP_rise _ (h.part k).1.rise).2 b).2 (.inr rfl)
  have key : ∀ j, k + 1 ≤ j → j ≤ l.length → b ∈ growP x (l.take j) o := by
    intro j hj
    induction j with
    | zero => omega
    | succ j ih =>
      intro hjl
      by_cases e : k + 1 = j + 1
      · rw [← e]; exact h1
      · have h2 := ih (by omega) (by omega)
        have hg : l[j]? = some (l[j]'(by omega)) := List.getElem?_eq_getElem _
        rw [grow_take hg]
        exact ((h.part j).1.one (List.mem_of_getElem? hg)).2 b h2
  have := key l.length (by omega) (Nat.le_refl _)
  rwa [List.take_length] at this
/-- It does not grow any more: that is all. -/
theorem GroI.done {l : List (Int × Int)} {x : Int} {o : List Int} (h : GroI l x o) (hl : (growP x l o).length = o.length) : ReachP l x (growP x l o) ∧ (growP x l o).Pairwise (· ≤ ·) := by
  obtain ⟨h1, h2⟩ := h.part l.length
  rw [List.take_length] at h1 h2
  have heq : o = growP x l o := by
    have hmem : ∀ y ∈ growP x l o, y ∈ o := fun y hy => by
      by_cases e : y ∈ o
      · exact e
      · have := nodup_le (r := y :: o) (m := growP x l o) (List.nodup_cons.2 ⟨e, (lt_le h.rise).1⟩) (fun z hz => by
          rcases List.mem_cons.1 hz with rfl | e2
          · exact hy
          · exact h2 z e2)
        rw [List.length_cons] at this
        omega
    exact rise_uniq (lt_le h.rise).1 (lt_le h1.rise).1 (lt_le h.rise).2 (lt_le h1.rise).2 (fun y => ⟨h2 y, hmem y⟩)
  refine ⟨⟨(lt_le h1.rise).1, fun y hy => grow_has h hy (.inl rfl), fun y z hy hz => grow_has h hz (.inr ?_), h1.only⟩, (lt_le h1.rise).2⟩
  rw [heq]
  exact hy
theorem GroI.more {l : List (Int × Int)} {x : Int} {o : List Int} (h : GroI l x o) : o.length ≤ (growP x l o).length := by
  obtain ⟨_, h2⟩ := h.part l.length
  rw [List.take_length] at h2
  exact nodup_le (lt_le h.rise).1 h2
set_option maxRecDepth 100000 in
set_option maxHeartbeats 8000000 in
theorem reach_ref {w : World} {v : Value} {l : List (Int × Int)} {x : Int} (h : EIs w v l) (hl : l.length ≤ 1000) : Calls Try.prog 17 #[.int .i64 x, v] w fun e w' => ∃ v' r, e = .returned v' ∧ ReachP l x r ∧ r.Pairwise (· ≤ ·) ∧ RowIs w' 1 v' r.length (ints r) ∧ (∀ b, v'.ownBlock = some b → w.heap.size ≤ b) ∧ Below w.heap.size w w' := by
  have HE := Lib.hid h
  obtain ⟨A, cap, rfl, h1, h2, _⟩ := h
  unfold maxLen at h2
  have hl' : (l.length : Int) ≤ 1000 := by omega
  go_enter Try.func17, Try.ntmps17
  go_wp2_with fail
  go_loopg [5] l.length (fun n ov wr => ∃ o : List Int, l.length - o.length = n ∧ GroI l x o ∧ RowIs wr 1 ov o.length (ints o) ∧ (∀ b, ov.ownBlock = some b → w.heap.size ≤ b) ∧ Below w.heap.size w wr)
  case atStart => exact ⟨[], by simp, GroI.nil l x, RowIs.nil _ _, (fun b e => by cases e), Below.refl _ _⟩
  case round =>
    obtain ⟨o, hn, hg, hrow, ho, hb⟩ := hrel
    have HG := Lib.hid hg
    have HB := Lib.hid hb
    have HO := Lib.hid ho
    have HR := Lib.hid hrow
    have HNN := Lib.hid hn
    have hfo := hg.few
    have hoI : (o.length : Int) ≤ 1000 := by omega
    have HFO := Lib.hid hfo
    obtain ⟨Ao, co, eo, hco1, hco2, _⟩ := hrow.form
    subst eo
    unfold maxLen at hco2
    clear hg hrow ho hb hn hfo
    go_wp2_with fail
    go_loopw [5, 13] (fun ov iv wr => ∃ k : Nat, k ≤ l.length ∧ iv = .int .i64 k ∧ RowIs wr 1 ov (growP x (l.take k) o).length (ints (growP x (l.take k) o)) ∧ (∀ b, ov.ownBlock = some b → w.heap.size ≤ b) ∧ Below w.heap.size w wr) (fun _ iv _ => l.length - (intOf iv).toNat)
    case atStart => exact ⟨0, Nat.zero_le _, rfl, by
      have e : growP x (l.take 0) o = o := by unfold growP; simp
      rw [e]
      exact HR.out, HO.out, HB.out⟩
    case round =>
      obtain ⟨k, hk, rfl, hrow, ho, hb⟩ := hrel
      have HB2 := Lib.hid hb
      have HO2 := Lib.hid ho
      have HR2 := Lib.hid hrow
      by_cases hlt : k < l.length
      · have hx : l[k]? = some l[k] := List.getElem?_eq_getElem hlt
        generalize l[k] = e at hx
        obtain ⟨_, _, e', _, _, h3⟩ := HE.out.below hb
        injection e' with e1 _ e3
        subst e1 e3
        obtain ⟨a, rfl, ha, k0, k1⟩ := h3 k e hx
        obtain ⟨p, q⟩ := e
        have hi : (k : Int) < (l.length : Int) := by omega
        have k1' : wr.cell? ⟨(a.add (k * 2)).block, (a.add (k * 2)).off + 1, none⟩ = some (.int .i64 q) := k1
        have hbn := below_new (w := wr) (.cells #[.int .i64 p, .int .i64 q] 40)
        have hrn := hrow.below hbn
        have HRN := Lib.hid hrn
        have hfk := (HG.out.part k).1.few
        have HBN := Lib.hid (hb.trans (hbn.mono hb.size))
        have HIN := Lib.hid (into_any (n := q) hrn (by omega))
        have HHA := Lib.hid (has_any (x := p) hrn (by omega))
        have HLT := Lib.hid hlt
        have HGT := Lib.hid (grow_take (x := x) (o := o) hx)
        clear h3 hx hk k1 hrow ho hb hlt hbn hrn hfk
        by_cases hpx : p = x
        · have q1 : (p == x) = true := by rw [hpx]; exact beq_self_eq_true x
          have HGR : Hid (grow1 x (growP x (l.take k) o) (p, q) = intoP (growP x (l.take k) o) q) := Lib.hid (by unfold grow1; rw [if_pos (.inl hpx)])
          clear hpx
          go_wp2_with fail
          refine (HIN.out).mono ?_
          rintro e w2 ⟨v2, rfl, hv2, ho2, hb2⟩
          have HV2 := Lib.hid hv2
          have HO3 : Hid (∀ b, v2.ownBlock = some b → w.heap.size ≤ b) := Lib.hid (fun b e => by have := ho2 b e; have := HBN.out.size; omega)
          have HB3 := Lib.hid (HBN.out.trans (hb2.mono HBN.out.size))
          clear hv2 ho2 hb2
          go_wp2_with fail
          go_roundw
          case rel => exact ⟨k + 1, HLT.out, by go_num, by rw [HGT.out, HGR.out]; exact HV2.out, HO3.out, HB3.out⟩
          case measure => have := HLT.out; simp [intOf]; omega
        · have q1 : (p == x) = false := by rw [beq_eq_false_iff_ne]; exact hpx
          by_cases hpo : p ∈ growP x (l.take k) o
          · have d : decide (p ∈ growP x (l.take k) o) = true := decide_eq_true hpo
            rw [d] at HHA
            have HGR : Hid (grow1 x (growP x (l.take k) o) (p, q) = intoP (growP x (l.take k) o) q) := Lib.hid (by unfold grow1; rw [if_pos (.inr hpo)])
            clear hpx hpo d
            go_wp2_with fail
            refine (HHA.out).mono ?_
            rintro e wx ⟨rfl, hwx⟩
            subst wx
            go_wp2_with fail
            refine (HIN.out).mono ?_
            rintro e w2 ⟨v2, rfl, hv2, ho2, hb2⟩
            have HV2 := Lib.hid hv2
            have HO3 : Hid (∀ b, v2.ownBlock = some b → w.heap.size ≤ b) := Lib.hid (fun b e => by have := ho2 b e; have := HBN.out.size; omega)
            have HB3 := Lib.hid (HBN.out.trans (hb2.mono HBN.out.size))
            clear hv2 ho2 hb2
            go_wp2_with fail
            go_roundw
            case rel => exact ⟨k + 1, HLT.out, by go_num, by rw [HGT.out, HGR.out]; exact HV2.out, HO3.out, HB3.out⟩
            case measure => have := HLT.out; simp [intOf]; omega
          · have d : decide (p ∈ growP x (l.take k) o) = false := decide_eq_false hpo
            rw [d] at HHA
            have HGR : Hid (grow1 x (growP x (l.take k) o) (p, q) = growP x (l.take k) o) := Lib.hid (by unfold grow1; rw [if_neg (fun e => e.elim hpx hpo)])
            clear hpx hpo d
            go_wp2_with fail
            refine (HHA.out).mono ?_
            rintro e wx ⟨rfl, hwx⟩
            subst wx
            go_wp2_with fail
            go_roundw
            case rel => exact ⟨k + 1, HLT.out, by go_num, by rw [HGT.out, HGR.out]; exact HRN.out, HO2.out, HBN.out⟩
            case measure => have := HLT.out; simp [intOf]; omega
      · obtain rfl : k = l.length := by omega
        rw [List.take_length] at HR2
        have hfg := (HG.out.part l.length).1.few
        rw [List.take_length] at hfg
        have hmo := HG.out.more
        obtain ⟨A2, c2, e2, hc21, hc22, _⟩ := HR2.out.form
        subst e2
        unfold maxLen at hc22
        by_cases hq : (growP x l o).length = o.length
        · obtain ⟨hrp, hri⟩ := HG.out.done hq
          have HRP := Lib.hid hrp
          have HRI := Lib.hid hri
          rw [hq] at hc21 ⊢
          rw [hq] at HR2 HO2
          have HQ := Lib.hid hq
          clear hlt hk hrow ho hb hfg hmo hrp hri hq
          go_wp2_with fail
          go_ret
          exact ⟨_, growP x l o, rfl, HRP.out, HRI.out, by rw [HQ.out]; exact HR2.out, HO2.out, HB2.out⟩
        · have HGP := Lib.hid ((HG.out.part l.length).1)
          rw [List.take_length] at HGP
          obtain ⟨m, hm⟩ : ∃ m, growP x l o = m := ⟨_, rfl⟩
          rw [hm] at HR2 HO2 HGP hfg hmo hc21 hq ⊢
          have q2 : ((m.length : Int) == (o.length : Int)) = false := by rw [beq_eq_false_iff_ne]; omega
          have hmI : (m.length : Int) ≤ 1000 := by omega
          have HLS : Hid (l.length - m.length < l.length - o.length) := Lib.hid (by omega)
          clear hlt hk hrow ho hb hfg hmo hq hm
          go_wp2_with fail
          go_roundg (l.length - m.length)
          case measure => have := HLS.out; have := HNN.out; omega
          case rel => exact ⟨m, rfl, HGP.out, HR2.out, HO2.out, HB2.out⟩
end Go.Proofs.Ytmpjimoefjcmhaa
