/- trie, the document's own tree in memory: Kids, Above. -/
import Derived.Test.YtpploljennbpdaaDoorZTrkA
set_option linter.unusedSimpArgs false
set_option linter.unusedVariables false
set_option linter.unnecessarySimpa false
namespace Go.Proofs.YtpploljennbpdaaDoor
open Go.RowKit Go.Shelf

def kidU (P : List Pth) (n i : Nat) : Bool := decide (0 < i ∧ upP P i = (n : Int))
theorem kidU_eq {P : List Pth} (hT : TreeP P) {n i : Nat} {p : Pth} (hn : P[n]? = some p) (hi : i < P.length) : kidB P n i = kidU P n i := by
  unfold kidB kidU
  rw [decide_eq_decide]
  have hq := List.getElem?_eq_getElem hi
  generalize P[i] = q at hq
  by_cases h0 : 0 < i
  · obtain ⟨j, _, hj⟩ := hT.up i q hq h0
    rw [up_at hq h0, hT.idx hj, hq, hn]
    simp only [h0, true_and, Option.map_some]
    constructor
    · intro e
      have e2 : q.dropLast = p := Option.some.inj e
      rw [e2] at hj
      rw [hT.inj hj hn]
    · intro e
      have : j = n := by omega
      subst this
      rw [hj] at hn
      exact hn
  · simp [h0]
def kidsK (P : List Pth) (n k : Nat) : List Nat := (List.range k).filter (kidU P n)
theorem kidsK_snoc (P : List Pth) (n k : Nat) : kidsK P n (k + 1) = kidsK P n k ++ if kidU P n k then [k] else [] := by
  unfold kidsK
  rw [List.range_succ, List.filter_append]
  congr 1
  by_cases h : kidU P n k = true
  · rw [if_pos h]; simp [h]
  · rw [if_neg h]; simp [h]
theorem kidsK_len (P : List Pth) (n k : Nat) : (kidsK P n k).length ≤ k := by
  unfold kidsK
  have := List.length_filter_le (kidU P n) (List.range k)
  rwa [List.length_range] at this
theorem kidsK_all {P : List Pth} (hT : TreeP P) {n : Nat} {p : Pth} (hn : P[n]? = some p) : kidsK P n P.length = kidsP P n := by
  unfold kidsK kidsP
  refine List.filter_congr (fun i hi => ?_)
  exact (kidU_eq hT hn (List.mem_range.1 hi)).symm
/-- What a call answers that makes a list of nodes. -/
def NodesP (l : List Nat) (w : World) (e : Ending) (w' : World) : Prop := ∃ v', e = .returned v' ∧ RowIs w' 1 v' l.length (ints (natI l)) ∧ (∀ g, v'.ownBlock = some g → w.heap.size ≤ g) ∧ Below w.heap.size w w'
/-- A list of nodes grows. -/
theorem nodes_app {w W : World} {v : Value} {l : List Nat} (h : RowIs W 1 v l.length (ints (natI l))) (ho : ∀ g, v.ownBlock = some g → w.heap.size ≤ g) (hb : Below w.heap.size w W) (hl : l.length ≤ 100000) (n : Nat) :
    ∃ v' W', (Builtin.append_ #[24, 24] 24 #[v, .slice (some ⟨W.heap.size, 0, none⟩) 1 1]).run Tryd.prog (W.alloc (.cells #[.int .i64 (n : Int)] 3)) = .ok v' W' ∧ RowIs W' 1 v' (l ++ [n]).length (ints (natI (l ++ [n]))) ∧ (∀ g, v'.ownBlock = some g → w.heap.size ≤ g) ∧ Below w.heap.size w W' ∧ Touch (fun k => w.heap.size ≤ k) W W' := by
  rw [← natI_len] at h
  obtain ⟨v', W', hrun, hr, ht, h3⟩ := app_int (n : Int) 24 h (by rw [natI_len]; omega)
  rw [← natI_snoc, natI_len] at hr
  refine ⟨v', W', hrun, hr, fun g hg => ?_, hb.trans (ht.below (fun i hi => ho i hi) hb.size), ht.mono (fun i _ hi => ho i hi)⟩
  rcases h3 g hg with e | e
  · exact ho g e
  · exact Nat.le_trans hb.size e
set_option maxRecDepth 100000 in
set_option maxHeartbeats 4000000 in
theorem RKids_any {w : World} {v : Value} {P : List Pth} {n : Nat} {p : Pth} (h : RTr w v P) (hn : P[n]? = some p) : Calls Tryd.prog 19 #[.agg #[v], .int .i64 (n : Int)] w (NodesP (kidsP P n) w) := by
  rw [← kidsK_all h.tree hn]
  obtain ⟨A, cap, rfl, h1, h2⟩ := h.row.form
  unfold maxLen at h2
  have hPI : (P.length : Int) ≤ 900 := by have := h.few; omega
  have hb0 := below_new (w := w) (.cells #[.slice A P.length cap] 32)
  have hbx := alloc_at w (.cells #[.slice A P.length cap] 32)
  obtain ⟨w1, hw1⟩ : ∃ w1, w1 = w.alloc (.cells #[.slice A P.length cap] 32) := ⟨_, rfl⟩
  rw [← hw1] at hb0 hbx
  have HW1 := Lib.hid hw1
  have HB0 := Lib.hid hb0
  have HBX := Lib.hid hbx
  have HH := Lib.hid h
  have hs1 : w1.heap.size = w.heap.size + 1 := by rw [hw1, asz]
  have HS1 := Lib.hid hs1
  have q1 := cell_of hbx 0
  clear h hn hb0 hbx hw1 hs1
  go_enter Tryd.func19, Tryd.ntmps19
  go_wp2_with fail
  rw [← HW1.out]
  go_wp2_with fail
  go_loopw [5, 10] (fun ov iv wr => ∃ k : Nat, k ≤ P.length ∧ iv = .int .i64 k ∧ RowIs wr 1 ov (kidsK P n k).length (ints (natI (kidsK P n k))) ∧ (∀ g, ov.ownBlock = some g → w1.heap.size ≤ g) ∧ Below w1.heap.size w1 wr) (fun _ iv _ => P.length - (intOf iv).toNat)
  case atStart => exact ⟨0, Nat.zero_le _, rfl, RowIs.nil _ _, (fun g e => by cases e), Below.refl _ _⟩
  case round =>
    obtain ⟨k, hk, rfl, hrow, hown, hbw⟩ := hrel
    have HROW := Lib.hid hrow
    have HOWN := Lib.hid hown
    have HB := Lib.hid hbw
    by_cases hlt : k < P.length
    · have hx : P[k]? = some P[k] := List.getElem?_eq_getElem hlt
      generalize P[k] = q at hx
      have hi : (k : Int) < (P.length : Int) := by omega
      have HLT := Lib.hid hlt
      by_cases h0 : 0 < k
      · have h0I : (0 : Int) < (k : Int) := by omega
        have qb := cell_of ((hbw.block _ (heap_lt HBX.out)).trans HBX.out) 0
        have HUP := Lib.hid (RUp_any ((HH.out.below HB0.out).below hbw) hx)
        obtain ⟨z, hz⟩ : ∃ z, upP P k = z := ⟨_, rfl⟩
        rw [hz] at HUP
        by_cases he : z = (n : Int)
        · have hzb : (z == (n : Int)) = true := by rw [beq_iff_eq]; exact he
          have HS : Hid (kidsK P n (k + 1) = kidsK P n k ++ [k]) := Lib.hid (by rw [kidsK_snoc, if_pos (by unfold kidU; exact decide_eq_true ⟨h0, by rw [hz]; exact he⟩)])
          clear hrow hown hbw hk hlt hx h0 hz he
          go_wp2_with fail
          refine (HUP.out).mono ?_
          rintro e w2 ⟨rfl, hb2⟩
          obtain ⟨ov', w3, hrun, hr3, ho3, hb3, _⟩ := nodes_app (HROW.out.below hb2) HOWN.out (HB.out.trans (hb2.mono HB.out.size)) (by have := kidsK_len P n k; have := HLT.out; omega) k
          rw [← HS.out] at hr3
          have HR3 := Lib.hid hr3
          have HO3 := Lib.hid ho3
          have HB3 := Lib.hid hb3
          clear hb2 hr3 ho3 hb3
          go_wp2_with (at_builtin; refine wpList_app_run rfl _ _ _ _ rfl rfl rfl hrun ?_)
          go_roundw
          case rel => exact ⟨k + 1, HLT.out, by go_num, HR3.out, HO3.out, HB3.out⟩
          case measure => have := HLT.out; simp [intOf]; omega
        · have hzb : (z == (n : Int)) = false := beq_eq_false_iff_ne.2 he
          have HS : Hid (kidsK P n (k + 1) = kidsK P n k) := Lib.hid (by rw [kidsK_snoc, if_neg (by unfold kidU; rw [hz]; simp [he]), List.append_nil])
          clear hrow hown hbw hk hlt hx h0 hz he
          go_wp2_with fail
          refine (HUP.out).mono ?_
          rintro e w2 ⟨rfl, hb2⟩
          have HR2 := Lib.hid (HROW.out.below hb2)
          have HB2 := Lib.hid (HB.out.trans (hb2.mono HB.out.size))
          clear hb2
          go_wp2_with fail
          go_roundw
          case rel => exact ⟨k + 1, HLT.out, by go_num, by rw [HS.out]; exact HR2.out, HOWN.out, HB2.out⟩
          case measure => have := HLT.out; simp [intOf]; omega
      · obtain rfl : k = 0 := by omega
        have HS : Hid (kidsK P n (0 + 1) = kidsK P n 0) := Lib.hid rfl
        clear hrow hown hbw hk hlt hx h0
        go_wp2_with fail
        go_roundw
        case rel => exact ⟨0 + 1, HLT.out, by go_num, by rw [HS.out]; exact HROW.out, HOWN.out, HB.out⟩
        case measure => have := HLT.out; simp [intOf]; omega
    · obtain rfl : k = P.length := by omega
      have hn2 : ¬ (P.length : Int) < (P.length : Int) := by omega
      clear hlt hk hrow hown hbw
      go_wp2_with fail
      refine bodyPost_ret (v := u5) (by simp [results, Tryd.results19, go_sem]) rfl ⟨u5, rfl, HROW.out, fun g hg => by have := HOWN.out g hg; have := HS1.out; omega, HB0.out.trans (HB.out.mono HB0.out.size)⟩
def sliceLen : Value → Nat | .slice _ n _ => n | _ => 0
/-- Node number k above a node, the node itself first; -1 behind the root. -/
def overI (P : List Pth) (p : Pth) (k : Nat) : Int := if k ≤ p.length then (idxP P (p.take (p.length - k)) : Int) else -1
theorem over_step {P : List Pth} (hT : TreeP P) {n : Nat} {p : Pth} (hn : P[n]? = some p) {k : Nat} (hk : k ≤ p.length) : upP P (idxP P (p.take (p.length - k))) = overI P p (k + 1) := by
  unfold overI
  by_cases h : k < p.length
  · rw [if_pos (by omega), above_up hT hn h]
  · obtain rfl : k = p.length := by omega
    rw [if_neg (by omega), Nat.sub_self, List.take_zero, hT.idx hT.root, up_root]
set_option maxRecDepth 100000 in
set_option maxHeartbeats 4000000 in
theorem RAbove_any {w : World} {v : Value} {P : List Pth} (m : Int) (h : RTr w v P) : Calls Tryd.prog 15 #[.agg #[v], .int .i64 m] w (NodesP (aboveI P m) w) := by
  obtain ⟨A, cap, rfl, h1, h2⟩ := h.row.form
  unfold maxLen at h2
  have hPI : (P.length : Int) ≤ 900 := by have := h.few; omega
  have hb0 := below_new (w := w) (.cells #[.slice A P.length cap] 32)
  have hbx := alloc_at w (.cells #[.slice A P.length cap] 32)
  obtain ⟨w1, hw1⟩ : ∃ w1, w1 = w.alloc (.cells #[.slice A P.length cap] 32) := ⟨_, rfl⟩
  rw [← hw1] at hb0 hbx
  have HW1 := Lib.hid hw1
  have HB0 := Lib.hid hb0
  have HBX := Lib.hid hbx
  have HH := Lib.hid h
  have hP9 : P.length ≤ 1000 := by have := h.few; omega
  have HTH := Lib.hid (fun (W : World) (z : Int) => There_any (w := W) (A := A) (P := P) (cap := cap) z hP9)
  have hs1 : w1.heap.size = w.heap.size + 1 := by rw [hw1, asz]
  have HS1 := Lib.hid hs1
  clear h hb0 hbx hw1 hs1 hP9
  by_cases hin : 0 ≤ m ∧ m < (P.length : Int)
  · obtain ⟨n, rfl⟩ : ∃ n : Nat, m = (n : Int) := ⟨m.toNat, by omega⟩
    have hn : P[n]? = some (P[n]'(by omega)) := List.getElem?_eq_getElem _
    generalize P[n]'(by omega) = p at hn
    rw [above_nat hn]
    have HN := Lib.hid hn
    have hp8 := HH.out.len hn
    have H8 := Lib.hid hp8
    have h0 : (n : Int) = overI P p 0 := by
      unfold overI
      rw [if_pos (Nat.zero_le _), Nat.sub_zero, List.take_length, HH.out.tree.idx hn]
    have H0 := Lib.hid h0
    clear hin hn hp8 h0
    go_enter Tryd.func15, Tryd.ntmps15
    go_wp2_with fail
    rw [← HW1.out]
    go_loopw [1, 5] (fun mv ov wr => ∃ k : Nat, k ≤ p.length + 1 ∧ mv = .int .i64 (overI P p k) ∧ RowIs wr 1 ov ((aboveP P n).take k).length (ints (natI ((aboveP P n).take k))) ∧ (∀ g, ov.ownBlock = some g → w1.heap.size ≤ g) ∧ Below w1.heap.size w1 wr) (fun _ ov _ => p.length + 1 - sliceLen ov)
    case atStart => exact ⟨0, Nat.zero_le _, by rw [← H0.out], by rw [List.take_zero]; exact RowIs.nil _ _, (fun g e => by cases e), Below.refl _ _⟩
    case round =>
      obtain ⟨k, hk, rfl, hrow, hown, hbw⟩ := hrel
      have hal := above_len HN.out
      have hlk : ((aboveP P n).take k).length = k := by rw [List.length_take, hal]; omega
      obtain ⟨l, hl⟩ : ∃ l, (aboveP P n).take k = l := ⟨_, rfl⟩
      rw [hl] at hrow hlk
      obtain ⟨oA, oc, rfl, _⟩ := id hrow.form
      have HROW := Lib.hid hrow
      have HOWN := Lib.hid hown
      have HB := Lib.hid hbw
      have HLK := Lib.hid hlk
      have qb := cell_of ((hbw.block _ (heap_lt HBX.out)).trans HBX.out) 0
      by_cases hlt : k ≤ p.length
      · have hz := take_in HH.out.tree HN.out (p.length - k)
        have hov : overI P p k = (idxP P (p.take (p.length - k)) : Int) := by unfold overI; rw [if_pos hlt]
        have hst := over_step HH.out.tree HN.out hlt
        have hat := above_at HH.out.tree HN.out hlt
        have hts : (aboveP P n).take (k + 1) = l ++ [idxP P (p.take (p.length - k))] := by rw [List.take_add_one, hat, hl]; rfl
        obtain ⟨z, hzz⟩ : ∃ z, idxP P (p.take (p.length - k)) = z := ⟨_, rfl⟩
        rw [hzz] at hz hov hst hts
        rw [hov]
        have hthere : inI P (z : Int) = true := by unfold inI; exact decide_eq_true (in_nat hz)
        have HT := Lib.hid (fun W => HTH.out W (z : Int))
        rw [hthere] at HT
        have HUP := Lib.hid (fun W (hW : Below w1.heap.size w1 W) => RUp_any ((HH.out.below HB0.out).below hW) hz)
        obtain ⟨y, hy⟩ : ∃ y, overI P p (k + 1) = y := ⟨_, rfl⟩
        rw [hst, hy] at HUP
        have HY := Lib.hid hy
        have HTS := Lib.hid hts
        have HLT := Lib.hid hlt
        clear hrow hown hbw hk hlt hz hov hst hat hts hzz hthere hy hal hlk hl
        go_wp2_with fail
        refine (HT.out _).mono ?_
        rintro e w2 ⟨rfl, hb2⟩
        obtain ⟨ov', w3, hrun, hr3, ho3, hb3, ht3⟩ := nodes_app (HROW.out.below hb2) HOWN.out (HB.out.trans (hb2.mono HB.out.size)) (by rw [HLK.out]; have := HLT.out; have := H8.out; omega) z
        obtain ⟨l2, hl2⟩ : ∃ l2, l ++ [z] = l2 := ⟨_, rfl⟩
        rw [hl2] at hr3
        have HL2 := Lib.hid hl2
        obtain ⟨A', c', rfl, _⟩ := id hr3.form
        have HR3 := Lib.hid hr3
        have HO3 := Lib.hid ho3
        have HB3 := Lib.hid hb3
        have qb3 := cell_of ((hb3.block _ (heap_lt HBX.out)).trans HBX.out) 0
        clear hb2 hr3 ho3 hb3 ht3 qb hl2
        go_wp2_with (at_builtin; refine wpList_app_run rfl _ _ _ _ rfl rfl rfl hrun ?_)
        refine (HUP.out _ HB3.out).mono ?_
        rintro e w4 ⟨rfl, hb4⟩
        have HR4 := Lib.hid (HR3.out.below hb4)
        have HB4 := Lib.hid (HB3.out.trans (hb4.mono HB3.out.size))
        clear hb4 hrun qb3
        go_wp2_with fail
        go_roundw
        case rel => exact ⟨k + 1, by have := HLT.out; omega, by rw [HY.out], by rw [HTS.out, HL2.out]; exact HR4.out, HO3.out, HB4.out⟩
        case measure =>
          have := HLT.out
          have h1 := HLK.out
          have h2 : l2.length = k + 1 := by rw [← HL2.out, List.length_append, h1]; rfl
          simp only [sliceLen, List.getElem?_toArray, Array.getD_eq_getD_getElem?, List.getElem?_cons_succ, List.getElem?_cons_zero, Option.getD_some]
          omega
      · have hov : overI P p k = -1 := by unfold overI; rw [if_neg hlt]
        rw [hov]
        have hthere : inI P (-1) = false := by unfold inI; exact decide_eq_false (fun e => by omega)
        have HT := Lib.hid (fun W => HTH.out W (-1))
        rw [hthere] at HT
        obtain rfl : k = p.length + 1 := by omega
        have htk : l = aboveP P n := by rw [← hl, ← hal, List.take_length]
        subst htk
        clear hrow hown hbw hk hlt hov hthere hal hlk hl
        go_wp2_with fail
        refine (HT.out _).mono ?_
        rintro e w2 ⟨rfl, hb2⟩
        have HR2 := Lib.hid (HROW.out.below hb2)
        have HB2 := Lib.hid (HB.out.trans (hb2.mono HB.out.size))
        clear hb2
        go_wp2_with fail
        refine bodyPost_ret (v := .slice oA (aboveP P n).length oc) (by simp [results, Tryd.results15, go_sem]) rfl ⟨_, rfl, HR2.out, fun g hg => by have := HOWN.out g hg; have := HS1.out; omega, HB0.out.trans (HB2.out.mono HB0.out.size)⟩
  · have hab : aboveI P m = [] := by unfold aboveI; rw [if_neg hin]
    rw [hab]
    have hthere : inI P m = false := by unfold inI; exact decide_eq_false hin
    have HT := Lib.hid (fun W => HTH.out W m)
    rw [hthere] at HT
    clear hin hab hthere
    go_enter Tryd.func15, Tryd.ntmps15
    go_wp2_with fail
    rw [← HW1.out]
    go_loopw [1, 5] (fun mv ov wr => mv = .int .i64 m ∧ ov = .slice none 0 0 ∧ wr = w1) (fun _ _ _ => 0)
    case atStart => exact ⟨rfl, rfl, rfl⟩
    case round =>
      obtain ⟨rfl, rfl, rfl⟩ := hrel
      have qb := cell_of HBX.out 0
      go_wp2_with fail
      refine (HT.out _).mono ?_
      rintro e w2 ⟨rfl, hb2⟩
      have HB2 := Lib.hid (HB0.out.trans (hb2.mono HB0.out.size))
      clear hb2
      go_wp2_with fail
      refine bodyPost_ret (v := .slice none 0 0) (by simp [results, Tryd.results15, go_sem]) rfl ⟨_, rfl, RowIs.nil _ _, (fun g e => by cases e), HB2.out⟩
end Go.Proofs.YtpploljennbpdaaDoor
