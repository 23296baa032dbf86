/- The journal: where the log begins. The journal: what is on a tape is loaded. The journal: its calls. The journal: what it tells; Open; a journal that is not there. -/
import Derived.Test.YtnegnokielmgkaaGreatDoorZJouL
set_option linter.unusedSimpArgs false
set_option linter.unusedVariables false
set_option linter.unnecessarySimpa false
namespace Go.Proofs.YtnegnokielmgkaaGreatDoor
open Go.RowKit

def beginP (A : List Sg) : Nat → Nat
  | 0 => 0
  | 1 => 0
  | i + 2 => match A[i + 1]? with
    | none => 0
    | some x => if (checkB (frmB x.2.1)).isSome then i + 1 else beginP A (i + 1)
theorem beginP_two {A : List Sg} {i : Nat} {x : Sg} (hx : A[i + 1]? = some x) : beginP A (i + 2) = if (checkB (frmB x.2.1)).isSome then i + 1 else beginP A (i + 1) := by
  conv => lhs; unfold beginP
  rw [hx]
theorem beginP_lt {A : List Sg} : ∀ (n : Nat), 0 < n → beginP A n < n
  | 1, _ => by unfold beginP; omega
  | i + 2, _ => by
    unfold beginP
    cases A[i + 1]? with
    | none => show 0 < i + 2; omega
    | some x =>
      show (if _ then _ else _) < _
      split
      · exact Nat.lt_succ_self _
      · have := beginP_lt (A := A) (i + 1) (by omega); omega
set_option maxRecDepth 100000 in
set_option maxHeartbeats 2000000 in
theorem begin_any {w : World} {F : Nat → Prop} {g cap n : Nat} {A : List Sg} {bvs : List Value} (hR : PsR w F g 0 A bvs) (hn : 0 < n) (hnA : n ≤ A.length) (h64 : A.length ≤ 64) (hc : n ≤ cap) : Calls Tryz.prog 91 #[.slice (some ⟨g, 0, none⟩) n cap] w fun e w' => e = .returned (.int .i64 (beginP A n : Nat)) ∧ Below w.heap.size w w' := by
  have HR := Lib.hid hR
  obtain ⟨m, rfl⟩ : ∃ m, n = m + 1 := ⟨n - 1, by omega⟩
  have HNA := Lib.hid hnA
  have q0 : ((m + 1 : Nat) : Int) = (m : Int) + 1 := by omega
  have hm64 : (m : Int) ≤ 64 := by omega
  clear hR hnA hn
  go_enter Tryz.func91, Tryz.ntmps91
  go_wp2_with fail
  go_loopw [3] (fun i wx => ∃ k : Nat, k ≤ m ∧ i = .int .i64 k ∧ beginP A (m + 1) = beginP A (k + 1) ∧ Below w.heap.size w wx) (fun i _ => (intOf i).toNat)
  case atStart => exact ⟨m, Nat.le_refl _, rfl, rfl, Below.refl _ _⟩
  case round =>
    obtain ⟨k, hk, rfl, hbe, hb⟩ := hrel
    have HBE := Lib.hid hbe
    have HB := Lib.hid hb
    have HK := Lib.hid hk
    clear hbe hb
    cases k with
    | zero =>
      go_wp2_with fail
      go_ret
      rw [HBE.out]
      exact ⟨rfl, HB.out⟩
    | succ k =>
      obtain ⟨x, xs, A5, c5, hx, hxl, hv, hbf, y0, y1, y2, y3⟩ := (HR.out.below HB.out).at_ (i := k + 1) (by have := HNA.out; omega)
      rw [Nat.zero_add] at y0 y1 y2 y3
      have HX := Lib.hid hx
      have HCK := Lib.hid (check_any (n := x.1) (wh := (endP (frmB x.2.1) : Nat)) (sz := (x.2.1.length : Nat)) hv hbf)
      have q1 : ((k + 1 : Nat) : Int) = (k : Int) + 1 := by omega
      have q2 : (0 : Int) < (k : Int) + 1 := by omega
      have q3 : (k : Int) < (m : Int) := by omega
      have q4 : k + 1 < m + 1 := by omega
      have q5 : k < m := by omega
      unfold pieceV at HCK
      clear hx hxl hv hbf
      generalize (endP (frmB x.2.1) : Nat) = E at *
      generalize x.2.1.length = L at *
      go_wp2_with fail
      refine (HCK.out).mono ?_
      rintro e w1 ⟨hb1, hor⟩
      have HB1 := Lib.hid (HB.out.trans (hb1.mono HB.out.size))
      rcases hor with ⟨r, v, h1, rfl, h2⟩ | ⟨h1, rfl⟩
      · have HF : Hid (beginP A (k + 1 + 1) = k + 1) := by rw [beginP_two HX.out, h1]; exact Lib.hid rfl
        clear h1 h2 hb1
        go_wp2_with fail
        go_ret
        rw [HBE.out, HF.out]
        exact ⟨rfl, HB1.out⟩
      · have HF : Hid (beginP A (k + 1 + 1) = beginP A (k + 1)) := by rw [beginP_two HX.out, h1]; exact Lib.hid rfl
        clear h1 hb1
        go_wp2_with fail
        go_roundw
        case rel => exact ⟨k, by omega, by go_num, by rw [HBE.out, HF.out], HB1.out⟩
        case measure => simp [intOf]
end Go.Proofs.YtnegnokielmgkaaGreatDoor

namespace Go.Proofs.YtnegnokielmgkaaGreatDoor
open Go.RowKit

def recsOf (A : List Sg) : List (List UInt8) := A.flatMap fun x => recsB (frmB x.2.1)
def headN (A : List Sg) (k : Nat) : Int := ((A[k]?).map (·.1)).getD 0
def headS (A : List Sg) (k : Nat) : List UInt8 := (((A[k]?).map fun x => checkB (frmB x.2.1)).getD none).getD []
def loadP (p : Pl) (seg : Nat) : Int × Js :=
  if (mendP p.A p.A.length p).1 ≠ 0 then ((mendP p.A p.A.length p).1, ⟨(mendP p.A p.A.length p).2.1, seg, [], []⟩)
  else if (mendP p.A p.A.length p).2.2 = 0 then (0, ⟨(mendP p.A p.A.length p).2.1, seg, [], []⟩)
  else if (dropsP (headN p.A (beginP p.A (mendP p.A p.A.length p).2.2)) (numsOf (mendP p.A p.A.length p).2.1.A) (mendP p.A p.A.length p).2.1).1 ≠ 0 then
    ((dropsP (headN p.A (beginP p.A (mendP p.A p.A.length p).2.2)) (numsOf (mendP p.A p.A.length p).2.1.A) (mendP p.A p.A.length p).2.1).1, ⟨(dropsP (headN p.A (beginP p.A (mendP p.A p.A.length p).2.2)) (numsOf (mendP p.A p.A.length p).2.1.A) (mendP p.A p.A.length p).2.1).2, seg, [], []⟩)
  else (0, ⟨(dropsP (headN p.A (beginP p.A (mendP p.A p.A.length p).2.2)) (numsOf (mendP p.A p.A.length p).2.1.A) (mendP p.A p.A.length p).2.1).2, seg, headS p.A (beginP p.A (mendP p.A p.A.length p).2.2), recsOf ((p.A.take (mendP p.A p.A.length p).2.2).drop (beginP p.A (mendP p.A p.A.length p).2.2))⟩)
section
variable {p p2 p3 : Pl} {seg n : Nat} {e : Int}
theorem loadP_err (hm : mendP p.A p.A.length p = (e, p2, n)) (he : ¬ e = 0) : loadP p seg = (e, ⟨p2, seg, [], []⟩) := by
  unfold loadP
  rw [hm]
  exact if_pos he
theorem loadP_none (hm : mendP p.A p.A.length p = (0, p2, 0)) : loadP p seg = (0, ⟨p2, seg, [], []⟩) := by
  unfold loadP
  rw [hm]
  rw [if_neg (by simp), if_pos rfl]
theorem loadP_drop (hm : mendP p.A p.A.length p = (0, p2, n)) (hn : ¬ n = 0) (hd : dropsP (headN p.A (beginP p.A n)) (numsOf p2.A) p2 = (e, p3)) (he : ¬ e = 0) : loadP p seg = (e, ⟨p3, seg, [], []⟩) := by
  unfold loadP
  rw [hm]
  rw [if_neg (by simp), if_neg hn]
  show (if (dropsP (headN p.A (beginP p.A n)) (numsOf p2.A) p2).1 ≠ 0 then _ else _) = _
  rw [hd, if_pos he]
theorem loadP_ok (hm : mendP p.A p.A.length p = (0, p2, n)) (hn : ¬ n = 0) (hd : dropsP (headN p.A (beginP p.A n)) (numsOf p2.A) p2 = (0, p3)) : loadP p seg = (0, ⟨p3, seg, headS p.A (beginP p.A n), recsOf ((p.A.take n).drop (beginP p.A n))⟩) := by
  unfold loadP
  rw [hm]
  rw [if_neg (by simp), if_neg hn]
  show (if (dropsP (headN p.A (beginP p.A n)) (numsOf p2.A) p2).1 ≠ 0 then _ else _) = _
  rw [hd, if_neg (by simp)]
end
theorem mendP_le (A : List Sg) : ∀ (n : Nat) (p : Pl), (mendP A n p).2.2 ≤ n
  | 0, p => Nat.le_refl _
  | n + 1, p => by
    unfold mendP
    cases A[n]? with
    | none => show 0 ≤ n + 1; omega
    | some x =>
      show (if _ then _ else _ : Int × Pl × Nat).2.2 ≤ n + 1
      split
      · exact Nat.le_refl _
      · split
        · show 0 ≤ n + 1; omega
        · exact Nat.le_trans (mendP_le A n _) (Nat.le_succ n)
theorem frm_len (b : List UInt8) : (frmB b).length ≤ b.length := by
  have h := (frmB_is b).1.end_le
  have : ∀ ls : List (List UInt8), ls.length ≤ endP ls := by
    intro ls
    induction ls with
    | nil => simp
    | cons m ls ih => rw [endP_cons', List.length_cons]; omega
  exact Nat.le_trans (this _) h
theorem recsOf_len (A : List Sg) : (recsOf A).length ≤ sizeS A := by
  induction A with
  | nil => simp [recsOf]
  | cons x A ih =>
    unfold recsOf sizeS at *
    rw [List.flatMap_cons, List.length_append, List.map_cons, List.sum_cons]
    have h1 := recsB_len (frmB x.2.1)
    have h2 := frm_len x.2.1
    omega
theorem sizeS_append (A B : List Sg) : sizeS (A ++ B) = sizeS A + sizeS B := by simp [sizeS]
theorem sizeS_tk (A : List Sg) (n : Nat) : sizeS (A.take n) ≤ sizeS A := by
  conv => rhs; rw [← List.take_append_drop n A]
  rw [sizeS_append]
  omega
theorem sizeS_dr (A : List Sg) (n : Nat) : sizeS (A.drop n) ≤ sizeS A := by
  conv => rhs; rw [← List.take_append_drop n A]
  rw [sizeS_append]
  omega
theorem set_state {w : World} {j t : Nat} {T : Tp} {J : Js} {s0 rv sv : Value} {xs : List Value} {st : List UInt8} (h : JAt w j t T J s0 rv xs) (hb : BF w (JF j t T rv) sv st) : JAt (w.setCell ⟨j, 2, none⟩ sv) j t T { J with st := st } sv rv xs ∧ Touch (· = j) w (w.setCell ⟨j, 2, none⟩ sv) := by
  have hT : Touch (· = j) w (w.setCell ⟨j, 2, none⟩ sv) := (Touch.refl (· = j) w).setCell ⟨j, 2, none⟩ (fun _ => rfl) _
  have hf : ∀ k, JF j t T rv k → ¬ k = j := fun k hk e => hk (.inl e)
  refine ⟨⟨?_, h.tp.touch hT (fun k hk e => h.jt (by subst e; exact hk)), hb.touch hT hf, h.row.keep hT.size (fun k hk => hT.block k (h.row.lt k hk).2 (fun e => h.rj (by rw [hk, e]))), h.recs.touch hT hf, h.jt, h.rj, h.rt⟩, hT⟩
  rw [set_at h.head 2]
  rfl
set_option maxRecDepth 100000 in
set_option maxHeartbeats 4000000 in
theorem load_any {w : World} {j t : Nat} {T : Tp} {p : Pl} {seg : Nat} (h : JAt w j t T ⟨p, seg, [], []⟩ (.slice none 0 0) (.slice none 0 0) []) (hO : Ok2 w (JB j t T (.slice none 0 0))) (hz : sizeS p.A ≤ 1000000) :
    Calls Tryz.prog 66 #[.pointer (some ⟨j, 0, none⟩)] w (JErr w (JB j t T (.slice none 0 0)) j t (loadP p seg)) := by
  have H := Lib.hid h
  have HO := Lib.hid hO
  have hgl : 0 ∉ T.blocks t := fun hc => hO.g (.inr (.inl hc))
  have HGL := Lib.hid hgl
  have HPC := Lib.hid (pieces_any hO.mov h.tp h.cell.1 hz)
  have h64 : p.A.length ≤ 64 := h.tp.few
  clear h hO hgl
  go_enter Tryz.func66, Tryz.ntmps66
  go_wp2_with fail
  refine (HPC.out).mono ?_
  rintro e w1 ⟨hb1, v, bvs, rfl, hps⟩
  have HB1 := Lib.hid hb1
  have H1 := Lib.hid (H.out.below hb1)
  have HO1 := Lib.hid (HO.out.below hb1)
  rcases hps.read with ⟨rfl, hA⟩ | ⟨g, cap, rfl, hc, hm, hR⟩
  · have HMN := Lib.hid (mend_none (j := j) H1.out.tp)
    have hmp : mendP p.A p.A.length p = (0, p, 0) := by rw [hA]; rfl
    have HF : Hid (loadP p seg = (0, ⟨p, seg, [], []⟩)) := Lib.hid (loadP_none hmp)
    clear hps hA hmp hb1
    go_wp2_with fail
    refine (HMN.out).mono ?_
    rintro e w2 ⟨lv, v, rfl, herr, hd, hlv⟩
    obtain rfl := herr.is_nil rfl
    rcases hlv rfl with ⟨_, rfl⟩ | ⟨h0, _⟩
    · have HD := Lib.hid (H1.out.tpd hd)
      clear herr hd hlv
      go_wp2_with fail
      go_ret
      rw [HF.out]
      exact ⟨_, rfl, ErrP.none _, HD.out.after HB1.out⟩
    · exact absurd rfl h0
  · have hF1 : ∀ k, (fun k => w.heap.size ≤ k ∧ k < w1.heap.size) k → k ∉ T.blocks t := fun k hk hc => by have := H.out.tp.tape.lt k hc; have := hk.1; omega
    have hR1 : PsR w1 (fun k => w.heap.size ≤ k ∧ k < w1.heap.size) g 0 p.A bvs := ⟨⟨hR.far, hR.lt⟩, hR.lt, hR.pcs.mono fun k hk hf => ⟨hf, hk⟩, hR.cells⟩
    have HR := Lib.hid hR1
    have HF1 := Lib.hid hF1
    have HMN := Lib.hid (mend_any (j := j) HO1.out.glob HGL.out H1.out.tp H1.out.cell.1 H1.out.jt hR1 hF1 hc hm h64)
    have HM := Lib.hid hm
    have HC := Lib.hid hc
    clear hps hb1 hR hR1 hF1 hm hc
    go_wp2_with fail
    refine (HMN.out).mono ?_
    rintro e w2 ⟨lv, v, rfl, herr, hd, hlv⟩
    obtain ⟨T2, k1, k2, k3⟩ := hd
    have H2 := Lib.hid (H1.out.tape k1 k2 k3)
    have HT2 := Lib.hid k2
    have HTO : Hid (Touch (JB j t T (.slice none 0 0)) w w2) := Lib.hid (Touch.ahead HB1.out (k2.mono fun k _ hk => .inr (.inl hk)))
    have HB2 := Lib.hid (jb_step (j := j) (T := T) (rv := .slice none 0 0) (B := JB j t T (.slice none 0 0)) HB1.out.size (fun k hk => .inl hk) k3)
    have HK3 := Lib.hid k3
    clear k1 k2 k3
    generalize hmm : mendP p.A p.A.length p = mm at *
    obtain ⟨me, p2, n⟩ := mm
    have HMM := Lib.hid hmm
    clear hmm
    by_cases hme : me = 0
    · subst hme
      obtain rfl := herr.is_nil rfl
      rcases hlv rfl with ⟨hn0, rfl⟩ | ⟨hn0, rfl⟩
      · have hn0 : n = 0 := hn0
        subst hn0
        have HF : Hid (loadP p seg = (0, ⟨p2, seg, [], []⟩)) := Lib.hid (loadP_none HMM.out)
        clear herr hlv
        go_wp2_with fail
        go_ret
        rw [HF.out]
        exact ⟨_, rfl, ErrP.none _, JD.trans HTO.out HB2.out (JD.same H2.out (Below.refl _ _))⟩
      · have hn0 : ¬ n = 0 := hn0
        have HN0 := Lib.hid hn0
        have hlen : 0 < n := Nat.pos_of_ne_zero hn0
        have hzz : ((n : Int) == 0) = false := by rw [beq_eq_false_iff_ne]; omega
        clear herr hlv
        have hnA : n ≤ p.A.length := by have := mendP_le p.A p.A.length p; rw [HMM.out] at this; exact this
        have hnc : n ≤ cap := Nat.le_trans hnA HC.out
        have hmx := HM.out
        unfold maxLen at hmx
        have HR2 := Lib.hid (HR.out.touch HT2.out HF1.out)
        have HBG := Lib.hid (begin_any HR2.out hlen hnA h64 hnc)
        have hkn := beginP_lt (A := p.A) n hlen
        generalize hkk : beginP p.A n = k at *
        have HKK := Lib.hid hkk
        clear hkk
        have hkA : k < p.A.length := by omega
        obtain ⟨x, xs, A5, c5, hx, hxl, _, _, y0, _, _, _⟩ := HR2.out.at_ hkA
        rw [Nat.zero_add] at y0
        have HX := Lib.hid hx
        have hhead : headN p.A k = x.1 := by unfold headN; rw [hx]; rfl
        have HHD := Lib.hid hhead
        have hz0 : ¬ (n : Int) = 0 := by omega
        have kk1 : (0 : Int) ≤ (k : Int) := by omega
        have kk2 : (k : Int) ≤ (n : Int) := by omega
        have kk3 : (k : Int) ≤ (cap : Int) := by omega
        have kk4 : k ≤ n := by omega
        have kk5 : k ≤ cap := by omega
        have kk6 : ¬ cap = k := by omega
        have kk7 : 0 < n - k := by omega
        have kk8 : (0 : Int) < ((n - k : Nat) : Int) := by omega
        clear hhead hx hxl
        go_wp2_with fail
        refine (HBG.out).mono ?_
        rintro e w3 ⟨rfl, hb3⟩
        have HB3 := Lib.hid hb3
        have HR3 := Lib.hid (HR2.out.below hb3)
        have y03 := (hb3.cell (p := ⟨g, k * 4, none⟩) (World.block_lt_of_cell? _ _ y0)).trans y0
        have H3 := Lib.hid (H2.out.below hb3)
        have HO2 := Lib.hid (HO.out.step HTO.out HB2.out)
        have HO3 := Lib.hid (HO2.out.below hb3)
        have HDR := Lib.hid (drop_any x.1 HO3.out.glob (fun hc => HO3.out.g (.inr (.inl hc))) H3.out.tp H3.out.cell.1 H3.out.jt)
        have hTO3 : Touch (JB j t T (.slice none 0 0)) w1 w3 := (HT2.out.mono (fun k _ hk => .inr (.inl hk))).after hb3
        have HTO3 := Lib.hid hTO3
        clear y0 hb3 hTO3
        go_wp2_with fail
        refine (HDR.out).mono ?_
        rintro e w4 ⟨v, rfl, herr, hd⟩
        obtain ⟨T3, m1, m2, m3⟩ := hd
        have hT3b : ∀ b ∈ T3.blocks t, b ∈ T.blocks t ∨ w1.heap.size ≤ b := fun b hb => by
          rcases m3 b hb with h | h
          · exact HK3.out b h
          · exact .inr (Nat.le_trans HTO3.out.size h)
        have HT3B := Lib.hid hT3b
        have H4 := Lib.hid (H3.out.tape m1 m2 m3)
        have HTO4 : Hid (Touch (JB j t T (.slice none 0 0)) w1 w4) := Lib.hid (HTO3.out.trans m2 (fun b hb hc => (HK3.out b hc).elim (fun e => .inr (.inl e)) (fun e => by omega)))
        have HB4 := Lib.hid (jb_step (j := j) (T := T) (T2 := T3) (rv := .slice none 0 0) (B := JB j t T (.slice none 0 0)) HB1.out.size (fun k hk => .inl hk) hT3b)
        clear m1 m2 m3 hT3b y03
        generalize hdd : dropsP x.1 (numsOf p2.A) p2 = dd at *
        obtain ⟨de, p3⟩ := dd
        have HDD := Lib.hid hdd
        clear hdd
        rw [← HHD.out, ← HKK.out] at HDD
        by_cases hde : de = 0
        · subst hde
          obtain rfl := herr.is_nil rfl
          have HF : Hid (loadP p seg = (0, ⟨p3, seg, headS p.A k, recsOf ((p.A.take n).drop k)⟩)) := by
            rw [loadP_ok HMM.out HN0.out HDD.out, HKK.out]
            exact Lib.hid rfl
          have hFJ : ∀ b, (fun k => w.heap.size ≤ k ∧ k < w1.heap.size) b → ¬ JB j t T (.slice none 0 0) b := fun b hb hc => by
            have := H.out.lt b hc
            have := hb.1
            omega
          have HFJ := Lib.hid hFJ
          obtain ⟨x', xs', A6, c6, hx', hxl', hv', hbf', y0, y1, y2, y3⟩ := (HR.out.touch HTO4.out hFJ).at_ hkA
          obtain rfl : x' = x := Option.some.inj (hx'.symm.trans HX.out)
          rw [Nat.zero_add] at y0 y1 y2 y3
          have HCK := Lib.hid (check_any (n := x'.1) (wh := (endP (frmB x'.2.1) : Nat)) (sz := (x'.2.1.length : Nat)) hv' hbf')
          unfold pieceV at HCK
          have HST : Hid (headS p.A k = (checkB (frmB x'.2.1)).getD []) := by
            unfold headS
            rw [HX.out]
            exact Lib.hid rfl
          have HCB := Lib.hid (show checkB (frmB x'.2.1) = checkB (frmB x'.2.1) from rfl)
          clear herr hx' hxl' hv' hbf' hFJ
          generalize hcb : checkB (frmB x'.2.1) = cb at *
          generalize (endP (frmB x'.2.1) : Nat) = E at *
          generalize x'.2.1.length = L at *
          go_wp2_with fail
          refine (HCK.out).mono ?_
          rintro e w5 ⟨hb5, hor⟩
          have hst : ∃ sv As ns cs, e = .returned (.tuple #[sv, .bool cb.isSome]) ∧ sv = .slice As ns cs ∧ BF w5 (fun k => w.heap.size ≤ k ∧ k < w1.heap.size) sv (cb.getD []) := by
            rcases hor with ⟨r, v, h1, rfl, h2⟩ | ⟨h1, rfl⟩
            · rw [hcb] at h1
              subst h1
              obtain ⟨⟨As, cs, rfl, _⟩, _⟩ := id h2
              exact ⟨_, _, _, _, rfl, rfl, h2⟩
            · rw [hcb] at h1
              subst h1
              exact ⟨_, _, _, _, rfl, rfl, BF.nil _ _⟩
          obtain ⟨sv, As, ns, cs, rfl, rfl, hsv⟩ := hst
          have hB1s := HB1.out.size
          have h5 := H4.out.below hb5
          have hsvJ : BF w5 (JF j t T3 (.slice none 0 0)) (.slice As ns cs) (cb.getD []) := hsv.mono fun b _ hb hc => by
            rcases hc with hc | hc | hc
            · exact HFJ.out b hb (.inl hc)
            · exact (HT3B.out b hc).elim (fun e => HFJ.out b hb (.inr (.inl e))) (fun e => by have := hb.2; omega)
            · cases hc
          obtain ⟨h6, hT6⟩ := set_state h5 hsvJ
          obtain ⟨_, _, z2, _⟩ := h5.cell
          have zf := free0 h5.head 2
          obtain ⟨w6, hw6⟩ : ∃ w6, w6 = w5.setCell ⟨j, 2, none⟩ (.slice As ns cs) := ⟨_, rfl⟩
          rw [← hw6] at h6 hT6
          have H6 := Lib.hid h6
          have HTO6 : Hid (Touch (JB j t T (.slice none 0 0)) w1 w6) := Lib.hid ((HTO4.out.after hb5).trans hT6 (fun b _ hb => .inl hb))
          clear hsv hsvJ h5 hT6 h6 hb5 hor y0 y1 y2 y3
          generalize hAA : (p.A.take n).drop k = AA at *
          have hAl : AA.length = n - k := by rw [← hAA, List.length_drop, List.length_take]; omega
          have HAA : Hid (∀ i, i < n - k → AA[i]? = p.A[k + i]?) := Lib.hid (fun i hi => by rw [← hAA, List.getElem?_drop, List.getElem?_take, if_pos (by omega)])
          have HAS : Hid (sizeS AA ≤ 1000000) := Lib.hid (by rw [← hAA]; exact Nat.le_trans (sizeS_dr _ _) (Nat.le_trans (sizeS_tk _ _) hz))
          have HAL := Lib.hid hAl
          clear hAA hAl
          go_wp2_with fail
          rw [← hw6]
          clear hw6 z2 zf
          go_loopw [55] (fun i wx => ∃ (m : Nat) (rv : Value) (ys : List Value), m ≤ n - k ∧ i = .int .i64 m ∧ JAt wx j t T3 ⟨p3, seg, cb.getD [], recsOf (AA.take m)⟩ (.slice As ns cs) rv ys ∧ (∀ b, rv.ownBlock = some b → w1.heap.size ≤ b) ∧ Touch (JB j t T (.slice none 0 0)) w1 wx) (fun i _ => (n - k) - (intOf i).toNat)
          case atStart => exact ⟨0, .slice none 0 0, [], by omega, rfl, H6.out, (fun b e => by cases e), HTO6.out⟩
          case round =>
            obtain ⟨m, rv, ys, hm, rfl, hJ, hrv, hTO⟩ := hrel
            have HJ := Lib.hid hJ
            have HRV := Lib.hid hrv
            have HTW := Lib.hid hTO
            have HMK := Lib.hid hm
            clear hJ hrv hTO hm
            by_cases hlt : m < n - k
            · have hkm : k + m < p.A.length := by omega
              obtain ⟨y, xs2, A7, c7, hy, hyl, hv2, hbf2, y0, y1, y2, y3⟩ := (HR.out.touch HTW.out HFJ.out).at_ hkm
              have hoff : 0 + (k + m) * 4 = k * 4 + m * 4 := by omega
              rw [hoff] at y0 y1 y2 y3
              have hAm : AA[m]? = some y := by rw [HAA.out m hlt]; exact hy
              have HAM := Lib.hid hAm
              have HLT := Lib.hid hlt
              have l1 : (m : Int) < ((n - k : Nat) : Int) := by omega
              have HV2 := Lib.hid hv2
              have HBF2 := Lib.hid hbf2
              have hfl : (frmB y.2.1).length ≤ 1000000 := by
                have h1 := frm_len y.2.1
                have h2 := sizeS_mem (List.mem_of_getElem? hAm)
                have h3 := HAS.out
                omega
              have HFL := Lib.hid hfl
              have hA := below_new (w := wr) (.cells #[.int .i64 y.1, .slice A7 xs2.length c7, .int .i64 (endP (frmB y.2.1) : Nat), .int .i64 (y.2.1.length : Nat)] 141)
              have hat := alloc_at wr (.cells #[.int .i64 y.1, .slice A7 xs2.length c7, .int .i64 (endP (frmB y.2.1) : Nat), .int .i64 (y.2.1.length : Nat)] 141)
              have hsz : (wr.alloc (.cells #[.int .i64 y.1, .slice A7 xs2.length c7, .int .i64 (endP (frmB y.2.1) : Nat), .int .i64 (y.2.1.length : Nat)] 141)).heap.size = wr.heap.size + 1 := asz _ _
              have HA := Lib.hid hA
              have HAT := Lib.hid hat
              have HSZ := Lib.hid hsz
              have HREC0 : Hid (∀ W, Below wr.heap.size wr W → Calls Tryz.prog 94 #[pieceV y.1 (.slice A7 xs2.length c7) (endP (frmB y.2.1) : Nat) (y.2.1.length : Nat)] W (RecsP W (fun b => w.heap.size ≤ b ∧ b < w1.heap.size) (frmB y.2.1))) := Lib.hid (fun W hW => records_any (HV2.out.below hW) (HBF2.out.below hW) (fun b hb => by have := hb.2; have := HTW.out.size; have := hW.size; omega) HFL.out)
              unfold pieceV at HREC0
              have HRL : Hid ((recsOf (AA.take m)).length + (recsB (frmB y.2.1)).length ≤ 1000000) := by
                have h1 := recsOf_len (AA.take (m + 1))
                have h2 := sizeS_tk AA (m + 1)
                have h3 := HAS.out
                have e1 : AA.take (m + 1) = AA.take m ++ [y] := by rw [List.take_add_one, hAm]; rfl
                rw [e1] at h1 h2
                have e2 : recsOf (AA.take m ++ [y]) = recsOf (AA.take m) ++ recsB (frmB y.2.1) := by simp [recsOf]
                rw [e2, List.length_append] at h1
                show _ ≤ _
                omega
              have HRS : Hid (recsOf (AA.take (m + 1)) = recsOf (AA.take m) ++ recsB (frmB y.2.1)) := by
                have e1 : AA.take (m + 1) = AA.take m ++ [y] := by rw [List.take_add_one, hAm]; rfl
                rw [e1]
                exact Lib.hid (by simp [recsOf])
              clear hy hyl hv2 hbf2 hoff hAm hfl hA hat hsz hkm
              generalize (endP (frmB y.2.1) : Nat) = E2 at *
              generalize y.2.1.length = L2 at *
              generalize xs2.length = n7 at *
              generalize frmB y.2.1 = fy at *
              generalize y.1 = yn at *
              go_wp2_with fail
              obtain ⟨W1, hW1⟩ : ∃ W1, W1 = wr.alloc (.cells #[.int .i64 yn, .slice A7 n7 c7, .int .i64 (E2 : Nat), .int .i64 (L2 : Nat)] 141) := ⟨_, rfl⟩
              rw [← hW1] at HA HAT HSZ ⊢
              have k0 := cell_of HAT.out 0
              have k1 := cell_of HAT.out 1
              have k2 := cell_of HAT.out 2
              have k3 := cell_of HAT.out 3
              simp at k0 k1 k2 k3
              have HJ1 := Lib.hid (HJ.out.below HA.out)
              obtain ⟨_, _, _, c3⟩ := HJ1.out.cell
              have HREC : Hid (∀ W, Below W1.heap.size W1 W → Calls Tryz.prog 94 #[.agg #[.int .i64 yn, .slice A7 n7 c7, .int .i64 (E2 : Nat), .int .i64 (L2 : Nat)]] W fun e w5 => ∃ v5, e = .returned v5 ∧ PutP W1 j t T3 ⟨p3, seg, cb.getD [], recsOf (AA.take m)⟩ (.slice As ns cs) rv (recsB fy) w5 v5 ∧ w5.cell? ⟨j, 3, none⟩ = some rv) := Lib.hid (fun W hW =>
                (HREC0.out W (HA.out.trans (hW.mono HA.out.size))).mono fun e w5 ⟨hb5, v5, ys5, e1, ho5, hbf5⟩ => ⟨v5, e1, put_recsF HJ1.out hW hb5 ho5 (hbf5.mono fun b _ hb hc => by
                  rcases hc with hc | hc | hc
                  · exact HFJ.out b hb (.inl hc)
                  · exact (HT3B.out b hc).elim (fun e => HFJ.out b hb (.inr (.inl e))) (fun e => by have := hb.2; omega)
                  · have := HRV.out b hc; have := hb.2; omega) HRL.out, ((HJ1.out.below (hW.trans (hb5.mono hW.size))).cell).2.2.2⟩)
              clear hW1 y0 y1 y2 y3
              go_region_law (first | (refine step_append_run hrun (by rfl) _ _ (by rfl) (by rfl) (by rfl) (by rfl) ?_) | (go_simp; go_at_call 94; refine (HREC.out _ (below_drew (Below.refl _ _))).mono ?_; rintro e w5 ⟨v5, rfl, hput, c5⟩; obtain ⟨A8, n8, c8, wa, hrun, ca, fa, hjd⟩ := hput; dsimp only))
              all_goals
                obtain ⟨⟨ys2, hJ2⟩, hT2, hrv2⟩ := hjd
                have HJ2 := Lib.hid hJ2
                have HTT2 := Lib.hid hT2
                have HRV2 := Lib.hid hrv2
                clear hrun ca fa c5 hJ2 hT2 hrv2
                go_wp2_with fail
                refine ⟨⟨m + 1, .slice A8 n8 c8, ys2, HLT.out, by go_num, by rw [HRS.out]; exact HJ2.out, fun b e => (HRV2.out b e).elim (HRV.out b) (fun h => by
                  have h1 := HTW.out.size
                  have h2 := HA.out.size
                  omega), (HTW.out.after HA.out).trans HTT2.out (fun b hb hc => by
                  rcases hc with hc | hc | hc
                  · exact .inl hc
                  · exact (HT3B.out b hc).elim (fun e => .inr (.inl e)) (fun e => by omega)
                  · have := HRV.out b hc; omega)⟩, ?_⟩
                have := HLT.out
                simp [intOf]
                omega
            · obtain rfl : m = n - k := by have := HMK.out; omega
              have HFI : Hid (loadP p seg = (0, ⟨p3, seg, cb.getD [], recsOf AA⟩)) := Lib.hid (by rw [HF.out, HST.out])
              go_wp2_with fail
              go_ret
              rw [HFI.out]
              have h1 := HJ.out
              rw [← HAL.out, List.take_length] at h1
              refine ⟨_, rfl, ErrP.none _, T3, _, _, _, h1, Touch.ahead HB1.out HTW.out, fun b hb => ?_⟩
              rcases hb with hb | hb | hb
              · exact .inl (.inl hb)
              · exact (HT3B.out b hb).elim (fun e => .inl (.inr (.inl e))) (fun e => .inr (by omega))
              · exact .inr (by have := HRV.out b hb; omega)
        · obtain ⟨tt, u, rfl⟩ := herr.form hde
          have HF : Hid (loadP p seg = (de, ⟨p3, seg, [], []⟩)) := Lib.hid (loadP_drop HMM.out HN0.out HDD.out hde)
          have HE := Lib.hid herr
          clear herr hde
          go_wp2_with fail
          go_ret
          rw [HF.out]
          exact ⟨_, rfl, HE.out, JD.trans (Touch.ahead HB1.out HTO4.out) HB4.out (JD.same H4.out (Below.refl _ _))⟩
    · obtain ⟨tt, u, rfl⟩ := herr.form hme
      have HF : Hid (loadP p seg = (me, ⟨p2, seg, [], []⟩)) := Lib.hid (loadP_err HMM.out hme)
      have HE := Lib.hid herr
      clear herr hlv hme
      go_wp2_with fail
      go_ret
      rw [HF.out]
      exact ⟨_, rfl, HE.out, JD.trans HTO.out HB2.out (JD.same H2.out (Below.refl _ _))⟩
end Go.Proofs.YtnegnokielmgkaaGreatDoor

namespace Go.Proofs.YtnegnokielmgkaaGreatDoor
open Go.RowKit

theorem code_err {w : World} {v : Value} {E : Int} (hG : Glob w) (h : ErrP E w v w) : Calls Tryz.prog 54 #[v] w fun e w' => e = .returned (.int .i64 E) ∧ Below w.heap.size w w' := by
  obtain ⟨c, h1, h2, _, h4, h5, _⟩ := h
  exact (code_any hG h1 h4 (by omega) (Below.refl _ _)).mono fun e w' k => ⟨by rw [k.1, h2], k.2⟩
def JAns (w : World) (B : Nat → Prop) (j t : Nat) (r : Int × Js) (e : Ending) (w' : World) : Prop := e = .returned (.int .i64 r.1) ∧ JD w B j t r.2 w'
section
variable {w : World} {j t : Nat} {T : Tp} {J : Js} {sv rv : Value} {xs : List Value}
theorem JD.ok2 {B : Nat → Prop} {w' : World} {J' : Js} (hO : Ok2 w B) (h : JD w B j t J' w') : Glob w' := by
  obtain ⟨T', s', r', x', h1, h2, h3⟩ := h
  exact (hO.touch h2).glob
set_option maxRecDepth 100000 in
set_option maxHeartbeats 1000000 in
theorem jappend {A : Option Addr} {c : Nat} {recs : List (List UInt8)} (h : JAt w j t T J sv rv xs) (hO : Ok2 w (JB j t T rv)) (hP : ∀ w', Touch (JB j t T rv) w w' → PIs w' (.slice A recs.length c) recs) (hl : recs.length ≤ 1000) (hJl : J.rs.length ≤ 900000) :
    Calls Tryz.prog 31 #[.pointer (some ⟨j, 0, none⟩), .slice A recs.length c] w (JAns w (JB j t T rv) j t (addP J recs)) := by
  have HA := Lib.hid (add_any h hO hP hl hJl)
  have HO := Lib.hid hO
  clear h hO hP hl hJl
  generalize addP J recs = r at *
  go_enter Tryz.func31, Tryz.ntmps31
  go_wp2_with fail
  refine (HA.out).mono ?_
  rintro e w1 ⟨v, rfl, herr, hd⟩
  have HD := Lib.hid hd
  have HC := Lib.hid (code_err (JD.ok2 HO.out hd) herr)
  clear herr hd
  go_wp2_with fail
  refine (HC.out).mono ?_
  rintro e w2 ⟨rfl, hb⟩
  have HB := Lib.hid hb
  clear hb
  go_wp2_with fail
  go_ret
  exact ⟨rfl, HD.out.below HB.out⟩
def syncP (J : Js) : Int × Js := ((settleP J.p).2.1, { J with p := (settleP J.p).2.2 })
set_option maxRecDepth 100000 in
set_option maxHeartbeats 1000000 in
theorem jsync (h : JAt w j t T J sv rv xs) (hO : Ok2 w (JB j t T rv)) : Calls Tryz.prog 33 #[.pointer (some ⟨j, 0, none⟩)] w (JAns w (JB j t T rv) j t (syncP J)) := by
  have HA := Lib.hid (settle_any hO.glob (fun hc => hO.g (.inr (.inl hc))) h.tp h.cell.1 (heap_lt h.head))
  have HO := Lib.hid hO
  have H := Lib.hid h
  clear h hO
  have HF : Hid (syncP J = ((settleP J.p).2.1, { J with p := (settleP J.p).2.2 })) := Lib.hid rfl
  generalize settleP J.p = r at *
  go_enter Tryz.func33, Tryz.ntmps33
  go_wp2_with fail
  refine (HA.out).mono ?_
  rintro e w1 ⟨v, rfl, herr, hd⟩
  have hd2 := H.out.tpd hd
  have HD := Lib.hid hd2
  have HC := Lib.hid (code_err (JD.ok2 HO.out hd2) herr)
  clear herr hd hd2
  go_wp2_with fail
  refine (HC.out).mono ?_
  rintro e w2 ⟨rfl, hb⟩
  have HB := Lib.hid hb
  clear hb
  go_wp2_with fail
  go_ret
  rw [HF.out]
  exact ⟨rfl, HD.out.below HB.out⟩
set_option maxRecDepth 100000 in
set_option maxHeartbeats 1000000 in
theorem jsave {A : Option Addr} {c : Nat} {st : List UInt8} (h : JAt w j t T J sv rv xs) (hO : Ok2 w (JB j t T rv)) (hP : ∀ w', Touch (JB j t T rv) w w' → BIs w' (.slice A st.length c) st) (hl : st.length ≤ 1000000) :
    Calls Tryz.prog 34 #[.pointer (some ⟨j, 0, none⟩), .slice A st.length c] w (JAns w (JB j t T rv) j t (saveP J st)) := by
  have HA := Lib.hid (save_any h hO hP hl)
  have HO := Lib.hid hO
  clear h hO hP hl
  generalize saveP J st = r at *
  go_enter Tryz.func34, Tryz.ntmps34
  go_wp2_with fail
  refine (HA.out).mono ?_
  rintro e w1 ⟨v, rfl, herr, hd⟩
  have HD := Lib.hid hd
  have HC := Lib.hid (code_err (JD.ok2 HO.out hd) herr)
  clear herr hd
  go_wp2_with fail
  refine (HC.out).mono ?_
  rintro e w2 ⟨rfl, hb⟩
  have HB := Lib.hid hb
  clear hb
  go_wp2_with fail
  go_ret
  exact ⟨rfl, HD.out.below HB.out⟩
def writeP (J : Js) (recs : List (List UInt8)) : Int × Js := if (addP J recs).1 ≠ 0 then addP J recs else syncP (addP J recs).2
set_option maxRecDepth 100000 in
set_option maxHeartbeats 1000000 in
theorem jwrite {A : Option Addr} {c : Nat} {recs : List (List UInt8)} (h : JAt w j t T J sv rv xs) (hO : Ok2 w (JB j t T rv)) (hP : ∀ w', Touch (JB j t T rv) w w' → PIs w' (.slice A recs.length c) recs) (hl : recs.length ≤ 1000) (hJl : J.rs.length ≤ 900000) :
    Calls Tryz.prog 32 #[.pointer (some ⟨j, 0, none⟩), .slice A recs.length c] w (JAns w (JB j t T rv) j t (writeP J recs)) := by
  have HA := Lib.hid (jappend h hO hP hl hJl)
  have HO := Lib.hid hO
  clear h hO hP hl hJl
  have HF : Hid (writeP J recs = if (addP J recs).1 ≠ 0 then addP J recs else syncP (addP J recs).2) := Lib.hid rfl
  generalize addP J recs = r at *
  obtain ⟨re, J1⟩ := r
  go_enter Tryz.func32, Tryz.ntmps32
  go_wp2_with fail
  refine (HA.out).mono ?_
  rintro e w1 ⟨rfl, hd⟩
  have HD := Lib.hid hd
  by_cases h0 : re = 0
  · subst h0
    have HF2 : Hid (writeP J recs = syncP J1) := by rw [HF.out]; exact Lib.hid rfl
    obtain ⟨T1, s1, r1, x1, k1, k2, k3⟩ := hd
    have HS := Lib.hid (jsync k1 (HO.out.step k2 k3))
    have K2 := Lib.hid k2
    have K3 := Lib.hid k3
    clear k1 k2 k3
    go_wp2_with fail
    refine (HS.out).mono ?_
    rintro e w2 ⟨rfl, hd2⟩
    have HD2 := Lib.hid hd2
    clear hd2
    go_wp2_with fail
    go_ret
    rw [HF2.out]
    exact ⟨rfl, JD.trans K2.out K3.out HD2.out⟩
  · have q1 : (re == 0) = false := by rw [beq_eq_false_iff_ne]; exact h0
    have q2 : (re != 0) = true := by rw [bne_iff_ne]; exact h0
    have HF2 : Hid (writeP J recs = (re, J1)) := by rw [HF.out]; exact Lib.hid (if_pos h0)
    clear hd h0
    go_wp2_with fail
    go_ret
    rw [HF2.out]
    exact ⟨rfl, HD.out⟩
end
end Go.Proofs.YtnegnokielmgkaaGreatDoor

namespace Go.Proofs.YtnegnokielmgkaaGreatDoor
open Go.RowKit

section
variable {w : World} {j t : Nat} {T : Tp} {J : Js} {sv rv : Value} {xs : List Value}
theorem JAt.vis (h : JAt w j t T J sv rv xs) : VIs w (fun _ => True) rv xs := by
  rcases h.row with ⟨rfl, rfl⟩ | ⟨g, cap, rfl, ho⟩
  · exact VIs.nil _ _
  · refine ⟨_, cap, rfl, ho.le, ho.max, fun a e => ?_, fun i x hx => ⟨_, rfl, ?_⟩⟩
    · cases e
      exact ⟨trivial, ho.lt⟩
    · rw [add0]
      exact ho.holds i x hx
set_option maxRecDepth 100000 in
theorem jstate (h : JAt w j t T J sv rv xs) (hl : J.st.length ≤ 1073741824) : Calls Tryz.prog 36 #[.pointer (some ⟨j, 0, none⟩)] w fun e w' => ∃ v, e = .returned v ∧ OwnBy w' w.heap.size v J.st ∧ Below w.heap.size w w' := by
  have HC := Lib.hid (clone_any h.st.1 hl)
  obtain ⟨_, _, c2, _⟩ := h.cell
  clear h hl
  go_enter Tryz.func36, Tryz.ntmps36
  go_wp2_with fail
  refine (HC.out).mono ?_
  rintro e w1 ⟨v, rfl, ho, hb⟩
  have HO := Lib.hid ho
  have HB := Lib.hid hb
  clear ho hb
  go_wp2_with fail
  go_ret
  exact ⟨v, rfl, HO.out, HB.out⟩
set_option maxRecDepth 100000 in
theorem jrecs (h : JAt w j t T J sv rv xs) (hl : J.rs.length ≤ 1000000) (hb : ∀ l ∈ J.rs, l.length ≤ 1073741824) : Calls Tryz.prog 35 #[.pointer (some ⟨j, 0, none⟩)] w (CopP w J.rs) := by
  have HC := Lib.hid (copies_any (pis_of h.vis (h.recs.mono (G := fun _ => True) fun _ _ _ => trivial)) hl hb)
  obtain ⟨_, _, _, c3⟩ := h.cell
  clear h hl hb
  go_enter Tryz.func35, Tryz.ntmps35
  go_wp2_with fail
  refine (HC.out).mono ?_
  rintro e w1 ⟨hb, v, ys, rfl, ho, hbf⟩
  have HO := Lib.hid ho
  have HB := Lib.hid hb
  have HF := Lib.hid hbf
  clear ho hb hbf
  go_wp2_with fail
  go_ret
  exact ⟨HB.out, v, ys, rfl, HO.out, HF.out⟩
set_option maxRecDepth 100000 in
theorem jlen (h : JAt w j t T J sv rv xs) : Calls Tryz.prog 39 #[.pointer (some ⟨j, 0, none⟩)] w fun e w' => e = .returned (.int .i64 (J.rs.length : Nat)) ∧ w = w' := by
  obtain ⟨_, _, _, c3⟩ := h.cell
  obtain ⟨A, cap, rfl, _⟩ := h.vis
  have hl := h.recs.1
  rw [hl] at c3
  clear h hl
  go_enter Tryz.func39, Tryz.ntmps39
  go_wp2_with fail
  go_ret
  exact ⟨rfl, rfl⟩
def NumsP (w : World) (p : Pl) (e : Ending) (w' : World) : Prop := ∃ v, e = .returned v ∧ RowIs w' 1 v (numsOf p.A).length ((numsOf p.A).map (Value.int .i64)) ∧ (∀ g, v.ownBlock = some g → w.heap.size ≤ g) ∧ Below w.heap.size w w'
theorem TP.segs {p : Pl} (h : TP w t T p) : Calls Tryz.prog 13 #[.pointer (some ⟨t, 0, none⟩)] w (NumsP w p) :=
  (segs_any h.tape).mono fun e w' ⟨v, ns, h1, h2, h3, h4, h5, h6⟩ => by
    obtain rfl := h.nums h3 h4
    exact ⟨v, h1, h2, h5, h6⟩
set_option maxRecDepth 100000 in
theorem jsegs (h : JAt w j t T J sv rv xs) : Calls Tryz.prog 40 #[.pointer (some ⟨j, 0, none⟩)] w (NumsP w J.p) := by
  have HC := Lib.hid h.tp.segs
  obtain ⟨c0, _, _, _⟩ := h.cell
  clear h
  go_enter Tryz.func40, Tryz.ntmps40
  go_wp2_with fail
  refine (HC.out).mono ?_
  rintro e w1 ⟨v, rfl, h2, h5, h6⟩
  have H2 := Lib.hid h2
  have H5 := Lib.hid h5
  have H6 := Lib.hid h6
  clear h2 h5 h6
  go_wp2_with fail
  go_ret
  exact ⟨v, rfl, H2.out, H5.out, H6.out⟩
theorem TP.used {p : Pl} (h : TP w t T p) : used T.L = sizeS p.A := by
  rw [← sizeS_abs]
  exact sizeS_perm h.eq.A
set_option maxRecDepth 100000 in
theorem jsize (h : JAt w j t T J sv rv xs) : Calls Tryz.prog 41 #[.pointer (some ⟨j, 0, none⟩)] w fun e w' => e = .returned (.int .i64 (sizeS J.p.A : Nat)) ∧ Below w.heap.size w w' := by
  have HC := Lib.hid (used_any h.tp.tape)
  have HU := Lib.hid h.tp.used
  obtain ⟨c0, _, _, _⟩ := h.cell
  clear h
  go_enter Tryz.func41, Tryz.ntmps41
  go_wp2_with fail
  refine (HC.out).mono ?_
  rintro e w1 ⟨rfl, hb⟩
  have HB := Lib.hid hb
  clear hb
  go_wp2_with fail
  go_ret
  rw [HU.out]
  exact ⟨rfl, HB.out⟩
end
/-! Open -/
/-- What Open leaves. -/
def OpenP (w : World) (t : Nat) (T : Tp) (r : Int × Js) (e : Ending) (w' : World) : Prop :=
  (r.1 ≠ 0 ∧ e = .returned (.tuple #[.pointer none, .int .i64 r.1]) ∧ TPd w t T r.2.p w') ∨
  (r.1 = 0 ∧ ∃ j T' sv rv xs, e = .returned (.tuple #[.pointer (some ⟨j, 0, none⟩), .int .i64 0]) ∧ JAt w' j t T' r.2 sv rv xs ∧ Touch (fun k => k ∈ T.blocks t) w w' ∧ ∀ k, JB j t T' rv k → k ∈ T.blocks t ∨ w.heap.size ≤ k)
set_option maxRecDepth 100000 in
set_option maxHeartbeats 2000000 in
theorem jopen {w : World} {t : Nat} {T : Tp} {p : Pl} {seg : Nat} (h : TP w t T p) (hG : Glob w) (hM : Mov w) (hg : 0 ∉ T.blocks t) (hm : 1 ∉ T.blocks t) (hs : 16 ≤ seg) (hs2 : seg ≤ 1048576) (hz : sizeS p.A ≤ 1000000) :
    Calls Tryz.prog 24 #[.pointer (some ⟨t, 0, none⟩), .int .i64 (seg : Int)] w (OpenP w t T (loadP p seg)) := by
  have hb0 := below_new (w := w) (.cells #[.pointer (some ⟨t, 0, none⟩), .int .i64 (seg : Int), .slice none 0 0, .slice none 0 0] 111)
  have hat := alloc_at w (.cells #[.pointer (some ⟨t, 0, none⟩), .int .i64 (seg : Int), .slice none 0 0, .slice none 0 0] 111)
  have hJ : JAt (w.alloc (.cells #[.pointer (some ⟨t, 0, none⟩), .int .i64 (seg : Int), .slice none 0 0, .slice none 0 0] 111)) w.heap.size t T ⟨p, seg, [], []⟩ (.slice none 0 0) (.slice none 0 0) [] :=
    ⟨hat, h.below hb0, BF.nil _ _, .inl ⟨rfl, rfl⟩, BFs.nil _ _, (fun hc => by have := h.tape.lt _ hc; omega), (fun e => by cases e), (fun k e => by cases e)⟩
  have hO : Ok2 (w.alloc (.cells #[.pointer (some ⟨t, 0, none⟩), .int .i64 (seg : Int), .slice none 0 0, .slice none 0 0] 111)) (JB w.heap.size t T (.slice none 0 0)) :=
    ⟨hG.below hb0, hM.below hb0, (fun hc => by
      rcases hc with hc | hc | hc
      · have := hG.lt
        omega
      · exact hg hc
      · cases hc), (fun hc => by
      rcases hc with hc | hc | hc
      · have := hM.lt
        omega
      · exact hm hc
      · cases hc)⟩
  have HL := Lib.hid (load_any hJ hO hz)
  have HB0 := Lib.hid hb0
  have HO := Lib.hid hO
  have HJ := Lib.hid hJ
  have q1 : ¬ (seg : Int) < 16 := by omega
  have q2 : ¬ (1048576 : Int) < (seg : Int) := by omega
  clear h hG hM hg hm hz hb0 hat hJ hO
  generalize loadP p seg = r at *
  obtain ⟨re, J1⟩ := r
  go_enter Tryz.func24, Tryz.ntmps24
  go_wp2_with fail
  refine (HL.out).mono ?_
  rintro e w1 ⟨v, rfl, herr, hd⟩
  by_cases h0 : re = 0
  · subst h0
    obtain rfl := herr.is_nil rfl
    have HD := Lib.hid hd
    clear herr hd
    go_wp2_with fail
    go_ret2
    obtain ⟨T', s', r', x', k1, k2, k3⟩ := HD.out
    have hB : ∀ k, k < w.heap.size → JB w.heap.size t T (.slice none 0 0) k → k ∈ T.blocks t := fun k hk hc => by
      rcases hc with hc | hc | hc
      · omega
      · exact hc
      · cases hc
    refine .inr ⟨rfl, w.heap.size, T', s', r', x', rfl, k1, (Touch.of_below HB0.out).trans k2 hB, fun k hk => ?_⟩
    have hs := HB0.out.size
    rcases k3 k hk with hc | hc
    · rcases hc with hc | hc | hc
      · exact .inr (by omega)
      · exact .inl hc
      · cases hc
    · exact .inr (by omega)
  · have HC := Lib.hid (code_err (JD.ok2 HO.out hd) herr)
    obtain ⟨tt, u, rfl⟩ := herr.form h0
    have HD := Lib.hid hd
    have H0 := Lib.hid h0
    clear herr hd h0
    go_wp2_with fail
    refine (HC.out).mono ?_
    rintro e w2 ⟨rfl, hb2⟩
    have HB2 := Lib.hid hb2
    clear hb2
    go_wp2_with fail
    go_ret2
    obtain ⟨T', s', r', x', k1, k2, k3⟩ := HD.out.below HB2.out
    have hs := HB0.out.size
    refine .inl ⟨H0.out, rfl, T', k1.tp, (Touch.of_below HB0.out).trans k2 (fun k hk hc => ?_), fun k hk => ?_⟩
    · rcases hc with hc | hc | hc
      · omega
      · exact hc
      · cases hc
    · rcases k3 k (.inr (.inl hk)) with hc | hc
      · rcases hc with hc | hc | hc
        · exact .inr (by omega)
        · exact .inl hc
        · cases hc
      · exact .inr (by omega)
set_option maxRecDepth 100000 in
theorem jopen_arg {w : World} {t : Nat} {seg : Int} (hs : seg < 16 ∨ 1048576 < seg) : Calls Tryz.prog 24 #[.pointer (some ⟨t, 0, none⟩), .int .i64 seg] w fun e w' => e = .returned (.tuple #[.pointer none, .int .i64 2]) ∧ w = w' := by
  by_cases h : seg < 16
  · have q1 : decide (seg < 16) = true := decide_eq_true h
    clear hs
    go_enter Tryz.func24, Tryz.ntmps24
    go_wp2_with fail
    go_ret2
    exact ⟨rfl, rfl⟩
  · have h2 : (1048576 : Int) < seg := by omega
    have q1 : decide (seg < 16) = false := decide_eq_false h
    have q2 : decide ((1048576 : Int) < seg) = true := decide_eq_true h2
    clear hs
    go_enter Tryz.func24, Tryz.ntmps24
    go_wp2_with fail
    go_ret2
    exact ⟨rfl, rfl⟩
set_option maxRecDepth 100000 in
theorem jopen_nil {w : World} {seg : Int} : Calls Tryz.prog 24 #[.pointer none, .int .i64 seg] w fun e w' => e = .returned (.tuple #[.pointer none, .int .i64 1]) ∧ w = w' := by
  go_enter Tryz.func24, Tryz.ntmps24
  go_wp2_with fail
  go_ret2
  exact ⟨rfl, rfl⟩
/-! a journal that is not there -/
set_option maxRecDepth 100000 in
theorem jappend_nil {w : World} (v : Value) : Calls Tryz.prog 31 #[.pointer none, v] w fun e w' => e = .returned (.int .i64 1) ∧ w = w' := by
  go_enter Tryz.func31, Tryz.ntmps31
  go_wp2_with fail
  go_ret
  exact ⟨rfl, rfl⟩
set_option maxRecDepth 100000 in
theorem jwrite_nil {w : World} (v : Value) : Calls Tryz.prog 32 #[.pointer none, v] w fun e w' => e = .returned (.int .i64 1) ∧ w = w' := by
  have HA := Lib.hid (jappend_nil (w := w) v)
  go_enter Tryz.func32, Tryz.ntmps32
  go_wp2_with fail
  refine (HA.out).mono ?_
  rintro e w1 ⟨rfl, rfl⟩
  go_wp2_with fail
  go_ret
  exact ⟨rfl, rfl⟩
set_option maxRecDepth 100000 in
theorem jsync_nil {w : World} : Calls Tryz.prog 33 #[.pointer none] w fun e w' => e = .returned (.int .i64 1) ∧ w = w' := by
  go_enter Tryz.func33, Tryz.ntmps33
  go_wp2_with fail
  go_ret
  exact ⟨rfl, rfl⟩
set_option maxRecDepth 100000 in
theorem jsave_nil {w : World} (v : Value) : Calls Tryz.prog 34 #[.pointer none, v] w fun e w' => e = .returned (.int .i64 1) ∧ w = w' := by
  go_enter Tryz.func34, Tryz.ntmps34
  go_wp2_with fail
  go_ret
  exact ⟨rfl, rfl⟩
set_option maxRecDepth 100000 in
theorem jstate_nil {w : World} : Calls Tryz.prog 36 #[.pointer none] w fun e w' => e = .returned (.slice none 0 0) ∧ w = w' := by
  go_enter Tryz.func36, Tryz.ntmps36
  go_wp2_with fail
  go_ret
  exact ⟨rfl, rfl⟩
set_option maxRecDepth 100000 in
theorem jrecs_nil {w : World} : Calls Tryz.prog 35 #[.pointer none] w fun e w' => e = .returned (.slice none 0 0) ∧ w = w' := by
  go_enter Tryz.func35, Tryz.ntmps35
  go_wp2_with fail
  go_ret
  exact ⟨rfl, rfl⟩
set_option maxRecDepth 100000 in
theorem jlen_nil {w : World} : Calls Tryz.prog 39 #[.pointer none] w fun e w' => e = .returned (.int .i64 0) ∧ w = w' := by
  go_enter Tryz.func39, Tryz.ntmps39
  go_wp2_with fail
  go_ret
  exact ⟨rfl, rfl⟩
set_option maxRecDepth 100000 in
theorem jsegs_nil {w : World} : Calls Tryz.prog 40 #[.pointer none] w fun e w' => e = .returned (.slice none 0 0) ∧ w = w' := by
  go_enter Tryz.func40, Tryz.ntmps40
  go_wp2_with fail
  go_ret
  exact ⟨rfl, rfl⟩
set_option maxRecDepth 100000 in
theorem jsize_nil {w : World} : Calls Tryz.prog 41 #[.pointer none] w fun e w' => e = .returned (.int .i64 0) ∧ w = w' := by
  go_enter Tryz.func41, Tryz.ntmps41
  go_wp2_with fail
  go_ret
  exact ⟨rfl, rfl⟩
end Go.Proofs.YtnegnokielmgkaaGreatDoor
