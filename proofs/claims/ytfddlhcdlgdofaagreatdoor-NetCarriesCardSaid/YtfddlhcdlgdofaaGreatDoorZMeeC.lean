/- ops.Decode. -/
import Derived.Test.YtfddlhcdlgdofaaGreatDoorZMeeA
set_option linter.unusedSimpArgs false
set_option linter.unusedVariables false
set_option linter.unnecessarySimpa false
namespace Go.Proofs.YtfddlhcdlgdofaaGreatDoor
open Go.RowKit Go.Shelf

def opC (l : List OpV) : List Value := l.flatMap fun o => [.int .i64 o.k, .string o.s, .int .i64 o.n, .int .i64 o.lo]
theorem opC_snoc (l : List OpV) (o : OpV) : opC (l ++ [o]) = opC l ++ [.int .i64 o.k, .string o.s, .int .i64 o.n, .int .i64 o.lo] := by simp [opC]
theorem opC_len (l : List OpV) : (opC l).length = l.length * 4 := by
  induction l with
  | nil => rfl
  | cons o r ih => unfold opC at ih ⊢; rw [List.flatMap_cons, List.length_append, ih]; simp; omega
theorem opC_at {l : List OpV} : ∀ {i : Nat} {o : OpV}, l[i]? = some o → (opC l)[i * 4]? = some (.int .i64 o.k) ∧ (opC l)[i * 4 + 1]? = some (.string o.s) ∧ (opC l)[i * 4 + 2]? = some (.int .i64 o.n) ∧ (opC l)[i * 4 + 3]? = some (.int .i64 o.lo) := by
  induction l with
  | nil => intro i o h; simp at h
  | cons x r ih =>
    intro i o h
    cases i with
    | zero => cases h; exact ⟨rfl, rfl, rfl, rfl⟩
    | succ i =>
      obtain ⟨h0, h1, h2, h3⟩ := ih (i := i) (o := o) (by simpa using h)
      have e : opC (x :: r) = [.int .i64 x.k, .string x.s, .int .i64 x.n, .int .i64 x.lo] ++ opC r := by simp [opC]
      rw [e, show (i + 1) * 4 = i * 4 + 4 by omega]
      have key : ∀ j, ([Value.int .i64 x.k, .string x.s, .int .i64 x.n, .int .i64 x.lo] ++ opC r)[j + 4]? = (opC r)[j]? := fun j => by
        rw [List.getElem?_append_right (by simp)]
        simp
      exact ⟨(key _).trans h0, by rw [show i * 4 + 4 + 1 = i * 4 + 1 + 4 by omega]; exact (key _).trans h1, by rw [show i * 4 + 4 + 2 = i * 4 + 2 + 4 by omega]; exact (key _).trans h2, by rw [show i * 4 + 4 + 3 = i * 4 + 3 + 4 by omega]; exact (key _).trans h3⟩
theorem opC_first {l : List OpV} (h : l ≠ []) : ∃ x, (opC l)[0]? = some (.int .i64 x) := by
  cases l with
  | nil => exact absurd rfl h
  | cons a r => exact ⟨_, rfl⟩
theorem RowIs.ops {w : World} {v : Value} {l : List OpV} {n : Nat} (h : RowIs w 4 v n (opC l)) (hl : l.length = n) : OpsAt w v l := by
  subst hl
  obtain ⟨A, cap, rfl, h1, h2, _, _, h3⟩ := h.form
  refine ⟨A, cap, rfl, h1, h2, fun i o hi => ?_⟩
  obtain ⟨k0, k1, k2, k3⟩ := opC_at hi
  obtain ⟨g, rfl, c0⟩ := h3 _ _ k0
  obtain ⟨g', e1, c1⟩ := h3 _ _ k1
  cases e1
  obtain ⟨g', e2, c2⟩ := h3 _ _ k2
  cases e2
  obtain ⟨g', e3, c3⟩ := h3 _ _ k3
  cases e3
  exact ⟨_, rfl, World.block_lt_of_cell? w ⟨g, i * 4, none⟩ c0, by rw [add0]; exact c0, by rw [add0]; exact c1, by rw [add0]; exact c2, by rw [add0]; exact c3⟩
theorem infoO : (Tryz.prog.info? 168).map (fun i => (i.zero, i.size, i.bytes)) = some (some (.agg #[.int .i64 0, .string ⟨#[]⟩, .int .i64 0, .int .i64 0]), 4, 40) := by kernel_rfl
theorem src_op {w : World} {o : OpV} {t : TypeId} {b : Nat} (h : w.heap[b]? = some (.cells #[.int .i64 o.k, .string o.s, .int .i64 o.n, .int .i64 o.lo] t (0, 0))) : Src Tryz.prog 4 35 (.slice (some ⟨b, 0, none⟩) 1 1) 1 [.int .i64 o.k, .string o.s, .int .i64 o.n, .int .i64 o.lo] w :=
  Src.ofSlice _ Tryz.underlying35 ⟨b, 0, none⟩ 1 1 [.int .i64 o.k, .string o.s, .int .i64 o.n, .int .i64 o.lo] rfl (fun j u hu => by
    rw [add0, cell_of h]
    simpa using hu) (by simp [Value.oneCell'])
theorem RowN.ne {w : World} {g : Nat} {A : Option Addr} {cap : Nat} {bs : List UInt8} {st : Option Nat} {B z : Nat} {v : Value} {n : Nat} {l : List Value} (hr : RowN w B z v n l) (h : RdS w g A cap bs st) : ∀ b, v.ownBlock = some b → b ≠ g := fun b e hb => by
  subst hb
  obtain ⟨x, hx⟩ := hr.cell e
  cases st with
  | none =>
    obtain ⟨p, e', t, u, _, _, _, hR⟩ := h
    rw [cell_of hR.blk] at hx
    cases hx
  | some p =>
    rw [cell_of (Rd.blk h)] at hx
    cases hx
def finO (bs : List UInt8) : Option (List OpV × Option Nat) → Option (List OpV)
  | none => none
  | some (l, st) => if st = some bs.length then some l else none
theorem decO_fin {bs : List UInt8} {n : Nat} {s1 : Option Nat} (h : natS bs (some 0) = (n, s1)) (hn : ¬ 64 < n) : decO bs = finO bs (opsS bs n [] s1) := by
  unfold decO
  rw [h]
  simp only
  rw [if_neg hn]
  cases opsS bs n [] s1 with
  | none => rfl
  | some x => rfl
/-- What ops.Decode answers. -/
def OpsDec (w : World) (o : Option (List OpV)) (e : Ending) (w' : World) : Prop :=
  Below w.heap.size w w' ∧ ((o = none ∧ e = .returned (.tuple #[.slice none 0 0, .int .i64 6])) ∨ ∃ l A cap, o = some l ∧ e = .returned (.tuple #[.slice A l.length cap, .int .i64 0]) ∧ RowN w' w.heap.size 4 (.slice A l.length cap) l.length (opC l) ∧ KeysIn l)
theorem opsS_no {bs : List UInt8} {k : Nat} {l : List OpV} {st : Option Nat} (h : mayO (opS 7 bs st).1 = false) : opsS bs (k + 1) l st = none := by unfold opsS; rw [if_neg (by rw [h]; decide)]
theorem opsS_go {bs : List UInt8} {k : Nat} {l : List OpV} {st : Option Nat} (h : mayO (opS 7 bs st).1 = true) : opsS bs (k + 1) l st = opsS bs k (l ++ [(opS 7 bs st).1]) (opS 7 bs st).2 := by rw [opsS, if_pos h]
set_option maxRecDepth 100000 in
set_option maxHeartbeats 8000000 in
theorem opsdec_any {w : World} {v : Value} {bs : List UInt8} (hG : Glob w) (h : BIs w v bs) (hl : bs.length ≤ 1073741824) :
    Calls Tryz.prog 60 #[v] w (OpsDec w (decO bs)) := by
  have HOF := Lib.hid (of_any h hl)
  have HG := Lib.hid hG
  obtain ⟨A0, cap0, rfl, _⟩ := h
  obtain ⟨n, s1, hn⟩ : ∃ n s, natS bs (some 0) = (n, s) := ⟨_, _, rfl⟩
  have hle := natS_le bs (some 0)
  rw [hn] at hle
  simp only at hle
  have HN1 := Lib.hid hn
  clear hG hl hn
  go_enter Tryz.func60, Tryz.ntmps60
  go_wp2_with fail
  refine (HOF.out).mono ?_
  rintro e w1 ⟨g, A, cap, rfl, hgn, hR, hb1⟩
  have hR : RdS w1 g A cap bs (some 0) := hR
  have HN := Lib.hid (nat_u hR)
  rw [HN1.out] at HN
  simp only at HN
  have HB1 := Lib.hid hb1
  have HGN := Lib.hid hgn
  clear hgn hR hb1 HOF
  go_wp2_with fail
  refine (HN.out).mono ?_
  rintro e w2 ⟨rfl, hR2, hO2⟩
  have HR2 := Lib.hid hR2
  have HO2 := Lib.hid hO2
  have HB2 := Lib.hid (HB1.out.trans (hO2.touch.below (fun i e => by rw [e]; exact HGN.out) HB1.out.size))
  clear hR2 hO2 HN
  by_cases h64 : 64 < n
  · have HE : Hid (decO bs = none) := Lib.hid (by unfold decO; rw [HN1.out, if_pos h64])
    have h64I : (64 : Int) < (n : Int) := by omega
    go_wp2_with fail
    refine bodyPost_ret (v := .tuple #[.slice none 0 0, .int .i64 6]) (by simp [results, Tryz.results60, go_sem]) rfl ?_
    exact ⟨HB2.out, .inl ⟨HE.out, rfl⟩⟩
  · have h64I : ¬ (64 : Int) < (n : Int) := by omega
    have HE := Lib.hid (decO_fin HN1.out h64)
    have hn64 : n ≤ 64 := by omega
    have hn64I : (n : Int) ≤ 64 := by omega
    clear hle
    go_wp2_with fail
    go_loopw [6, 15] (fun bv iv wr => ∃ (i : Nat) (l : List OpV) (st : Option Nat), i ≤ n ∧ iv = .int .u64 i ∧ l.length = i ∧ KeysIn l ∧ RowN wr w.heap.size 4 bv i (opC l) ∧ RdS wr g A cap bs st ∧ Below w.heap.size w wr ∧ opsS bs n [] s1 = opsS bs (n - i) l st) (fun _ iv _ => n - (intOf iv).toNat)
    case atStart => exact ⟨0, [], s1, Nat.zero_le _, rfl, rfl, (fun o h => by cases h), ⟨RowIs.nil _ _, (fun b e => by cases e), fun _ => rfl⟩, HR2.out, HB2.out, rfl⟩
    case round =>
      obtain ⟨i, l, st, hi, rfl, hli, hkl, hrow, hR, hbw, hcont⟩ := hrel
      by_cases hlt : i < n
      · have HNX := Lib.hid (next_u hR)
        have HNEQ := Lib.hid (hrow.ne hR)
        have hsle := (strS_le : (strS 16 bs (natS bs st).2).1.size ≤ 16)
        have hos : (opS 7 bs st).1.s.size ≤ 16 := hsle
        obtain ⟨o, st2, ho⟩ : ∃ o s, opS 7 bs st = (o, s) := ⟨_, _, rfl⟩
        obtain ⟨m0, hm0⟩ : ∃ m0, n - i = m0 + 1 := ⟨n - i - 1, by omega⟩
        have HM0 : Hid (n - (i + 1) = m0) := Lib.hid (by omega)
        rw [hm0] at hcont
        have HNO := Lib.hid (fun (h : mayO (opS 7 bs st).1 = false) => opsS_no (k := m0) (l := l) h)
        have HGO := Lib.hid (fun (h : mayO (opS 7 bs st).1 = true) => opsS_go (k := m0) (l := l) h)
        rw [ho] at HNX HNO HGO hos
        simp only at HNX HNO HGO hos
        have HCONT := Lib.hid hcont
        have HROW := Lib.hid hrow
        have HBW := Lib.hid hbw
        have HLI := Lib.hid hli
        have HKL := Lib.hid hkl
        have HLT := Lib.hid hlt
        obtain ⟨kd, s, nn, lo⟩ := o
        simp only at hos
        have HMY := Lib.hid (fun W => opmay_any kd s nn lo W (by omega))
        obtain ⟨mb, hmb⟩ : ∃ b, mayO ⟨kd, s, nn, lo⟩ = b := ⟨_, rfl⟩
        rw [hmb] at HMY HNO HGO
        have HOS := Lib.hid hos
        have hiI : (i : Int) < (n : Int) := by omega
        obtain ⟨Al, cl, rfl, _⟩ := hrow.1.form
        clear hcont hrow hbw hli hkl hlt hR hsle hos ho hmb hm0
        go_wp2_with fail
        refine (HNX.out).mono ?_
        rintro e w3 ⟨rfl, hR3, hO3⟩
        have hbn := below_new (w := w3) (.cells #[.int .i64 kd, .string s, .int .i64 nn, .int .i64 lo] 168)
        have hat := alloc_at w3 (.cells #[.int .i64 kd, .string s, .int .i64 nn, .int .i64 lo] 168)
        have hb3 := HBW.out.trans (hO3.touch.below (fun i e => by rw [e]; exact HGN.out) HBW.out.size)
        have HB3 := Lib.hid (hb3.trans (hbn.mono hb3.size))
        have HR3 := Lib.hid (hR3.below hbn)
        have HAT := Lib.hid hat
        have HRW3 : Hid (RowN (w3.alloc (.cells #[.int .i64 kd, .string s, .int .i64 nn, .int .i64 lo] 168)) w.heap.size 4 (.slice Al i cl) i (opC l)) := Lib.hid ⟨(HROW.out.1.touch hO3.touch (fun b e hbg => HNEQ.out b e hbg)).below hbn, HROW.out.2⟩
        clear hR3 hO3 hbn hat hb3 HNX
        go_wp2_with fail
        refine (HMY.out _).mono ?_
        rintro e w4 ⟨rfl, hb4⟩
        have hat4 := (hb4.block w3.heap.size (by rw [asz]; omega)).trans HAT.out
        have HB4 := Lib.hid (HB3.out.trans (hb4.mono HB3.out.size))
        have HR4 := Lib.hid (HR3.out.below hb4)
        have HRW4 : Hid (RowN w4 w.heap.size 4 (.slice Al i cl) i (opC l)) := Lib.hid ⟨HRW3.out.1.below hb4, HRW3.out.2⟩
        have c0 := cell_of hat4 0
        have c1 := cell_of hat4 1
        have c2 := cell_of hat4 2
        have c3 := cell_of hat4 3
        simp at c0 c1 c2 c3
        clear hb4 hat4 HMY
        cases mb with
        | false =>
          have HF : Hid (decO bs = none) := Lib.hid (by rw [HE.out, HCONT.out, HNO.out (by simp)]; rfl)
          go_wp2_with fail
          refine bodyPost_ret (v := .tuple #[.slice none 0 0, .int .i64 6]) (by simp [results, Tryz.results60, go_sem]) rfl ?_
          exact ⟨HB4.out, .inl ⟨HF.out, rfl⟩⟩
        | true =>
          have hbn := below_new (w := w4) (.cells #[.int .i64 kd, .string s, .int .i64 nn, .int .i64 lo] 168)
          have hat := alloc_at w4 (.cells #[.int .i64 kd, .string s, .int .i64 nn, .int .i64 lo] 168)
          have HSRC := Lib.hid (src_op (o := ⟨kd, s, nn, lo⟩) hat)
          have HB5 := Lib.hid (HB4.out.trans (hbn.mono HB4.out.size))
          have HR5 := Lib.hid (HR4.out.below hbn)
          have HRW5 : Hid (RowN (w4.alloc (.cells #[.int .i64 kd, .string s, .int .i64 nn, .int .i64 lo] 168)) w.heap.size 4 (.slice Al i cl) i (opC l)) := Lib.hid ⟨HRW4.out.1.below hbn, HRW4.out.2⟩
          clear hbn hat
          go_wp2_with (at_builtin; refine wpList_append_row _ _ Tryz.underlying35 infoO rfl (by decide) (by decide) _ rfl _ _ 35 rfl i 1 (opC l) [.int .i64 kd, .string s, .int .i64 nn, .int .i64 lo] _ _ rfl rfl HRW5.out.1 HSRC.out ?_ ?_)
          all_goals first | omega | skip
          intro v' w' hr5 hg5 hb5
          have HNEW : Hid (RowN w' w.heap.size 4 v' (i + 1) (opC (l ++ [⟨kd, s, nn, lo⟩])) ∧ RdS w' g A cap bs st2 ∧ Below w.heap.size w w' ∧ (l ++ [(⟨kd, s, nn, lo⟩ : OpV)]).length = i + 1 ∧ KeysIn (l ++ [⟨kd, s, nn, lo⟩])) := Lib.hid (by
            rw [← opC_snoc l ⟨kd, s, nn, lo⟩] at hr5
            refine ⟨HRW5.out.grown HB5.out.size hr5 (by rw [asz]; exact hb5) (opC_first (by simp)), HR5.out.grown HRW5.out hg5, ?_, by rw [List.length_append, HLI.out]; rfl, fun o ho => ?_⟩
            · have ht := (Touch.refl (fun k => (Value.slice Al i cl).ownBlock = some k) (w4.alloc (.cells #[.int .i64 kd, .string s, .int .i64 nn, .int .i64 lo] 168))).grown hg5 (fun k e _ => e)
              exact HB5.out.trans (ht.below (fun b e => (HRW5.out.2.1 b e).1) HB5.out.size)
            · rcases List.mem_append.1 ho with h | h
              · exact HKL.out o h
              · obtain rfl := List.mem_singleton.1 h
                have := HOS.out
                simp only
                omega)
          have HC2 : Hid (opsS bs n [] s1 = opsS bs (n - (i + 1)) (l ++ [⟨kd, s, nn, lo⟩]) st2) := Lib.hid (by rw [HCONT.out, HM0.out]; exact HGO.out (by simp))
          clear hr5 hg5 hb5 c0 c1 c2 c3
          go_wp2_with fail
          go_roundw
          case rel => exact ⟨i + 1, _, st2, HLT.out, by go_num, HNEW.out.2.2.2.1, HNEW.out.2.2.2.2, HNEW.out.1, HNEW.out.2.1, HNEW.out.2.2.1, HC2.out⟩
          case measure => have := HLT.out; simp [intOf]; omega
      · obtain rfl : i = n := by omega
        rw [Nat.sub_self] at hcont
        have HEN := Lib.hid (end_u (HG.out.below hbw) (by have := HG.out.lt; have := HGN.out; have := HB1.out.size; omega) hR)
        have HCONT := Lib.hid hcont
        have HROW := Lib.hid hrow
        have HBW := Lib.hid hbw
        have HLI := Lib.hid (And.intro hli hkl)
        have HNEQ := Lib.hid (hrow.ne hR)
        obtain ⟨Al, cl, rfl, _⟩ := hrow.1.form
        clear hcont hrow hbw hli hR hkl
        go_wp2_with fail
        refine (HEN.out).mono ?_
        rintro e w3 ⟨x, rfl, hx, hO3⟩
        have HB3 := Lib.hid (HBW.out.trans (hO3.touch.below (fun i e => by rw [e]; exact HGN.out) HBW.out.size))
        have HRW3 : Hid (RowN w3 w.heap.size 4 (.slice Al i cl) i (opC l)) := Lib.hid ⟨HROW.out.1.touch hO3.touch (fun b e hbg => HNEQ.out b e hbg), HROW.out.2⟩
        have HX := Lib.hid hx
        by_cases he : st = some bs.length
        · obtain rfl : x = 0 := by simpa [he] using hx
          have HF : Hid (decO bs = some l) := Lib.hid (by rw [HE.out, HCONT.out]; simp only [opsS, finO]; rw [if_pos he])
          clear hx hO3
          go_wp2_with fail
          refine bodyPost_ret (v := .tuple #[.slice Al i cl, .int .i64 0]) (by simp [results, Tryz.results60, go_sem]) rfl ?_
          have hli := HLI.out.1
          subst hli
          exact ⟨HB3.out, .inr ⟨l, Al, cl, HF.out, rfl, HRW3.out, HLI.out.2⟩⟩
        · have hx0 : (x == 0) = false := by simpa [he] using hx
          have hx1 : ¬ x = 0 := by simpa using hx0
          have hx2 : (x != 0) = true := by simpa using hx1
          have HF : Hid (decO bs = none) := Lib.hid (by rw [HE.out, HCONT.out]; simp only [opsS, finO]; rw [if_neg he])
          clear hx hO3
          go_wp2_with fail
          refine bodyPost_ret (v := .tuple #[.slice none 0 0, .int .i64 6]) (by simp [results, Tryz.results60, go_sem]) rfl ?_
          exact ⟨HB3.out, .inl ⟨HF.out, rfl⟩⟩
end Go.Proofs.YtfddlhcdlgdofaaGreatDoor
