/- The journal: what stands in a tape's segments. The journal: what is torn is taken away. The journal: mend. -/
import Derived.Test.YtnegnokielmgkaaGreatDoorZJouH
import Derived.Test.YtnegnokielmgkaaGreatDoorZCrcV
import Derived.Test.YtnegnokielmgkaaGreatDoorZTapO
import Derived.Deep.RegionHeld
set_option linter.unusedSimpArgs false
set_option linter.unusedVariables false
set_option linter.unnecessarySimpa false
namespace Go.Proofs.YtnegnokielmgkaaGreatDoor
open Go.RowKit

def pieceC (x : Sg) (bv : Value) : List Value := [.int .i64 x.1, bv, .int .i64 (endP (frmB x.2.1) : Nat), .int .i64 (x.2.1.length : Nat)]
def piecesC : List Sg → List Value → List Value
  | x :: A, bv :: bvs => pieceC x bv ++ piecesC A bvs
  | _, _ => []
theorem piecesC_len : ∀ (A : List Sg) (bvs : List Value), A.length = bvs.length → (piecesC A bvs).length = A.length * 4
  | [], _, _ => by simp [piecesC]
  | x :: A, [], h => by simp at h
  | x :: A, bv :: bvs, h => by
    have := piecesC_len A bvs (by simpa using h)
    simp only [piecesC, List.length_append, this, List.length_cons, pieceC, List.length_nil]
    omega
theorem piecesC_snoc : ∀ (A : List Sg) (bvs : List Value) (x : Sg) (bv : Value), A.length = bvs.length → piecesC (A ++ [x]) (bvs ++ [bv]) = piecesC A bvs ++ pieceC x bv
  | [], [], x, bv, _ => by simp [piecesC]
  | [], b :: bvs, x, bv, h => by simp at h
  | y :: A, [], x, bv, h => by simp at h
  | y :: A, b :: bvs, x, bv, h => by
    have := piecesC_snoc A bvs x bv (by simpa using h)
    simp only [List.cons_append, piecesC, this, List.append_assoc]
theorem piecesC_at : ∀ (A : List Sg) (bvs : List Value) (i : Nat) (x : Sg) (bv : Value), A[i]? = some x → bvs[i]? = some bv → ∀ d, d < 4 → (piecesC A bvs)[i * 4 + d]? = (pieceC x bv)[d]?
  | [], _, i, x, bv, h, _, d, _ => by simp at h
  | y :: A, [], i, x, bv, _, h, d, _ => by simp at h
  | y :: A, b :: bvs, 0, x, bv, h1, h2, d, hd => by
    obtain rfl : y = x := by simpa using h1
    obtain rfl : b = bv := by simpa using h2
    simp only [piecesC]
    rw [List.getElem?_append_left (by simp [pieceC]; omega)]
    congr 1
    omega
  | y :: A, b :: bvs, i + 1, x, bv, h1, h2, d, hd => by
    have := piecesC_at A bvs i x bv (by simpa using h1) (by simpa using h2) d hd
    simp only [piecesC]
    rw [List.getElem?_append_right (by simp [pieceC]; omega), ← this]
    congr 1
    simp [pieceC]
    omega
/-- The bodies of a piece. -/
def PcAt (w : World) (F : Nat → Prop) (x : Sg) (bv : Value) : Prop := ∃ xs, VIs w F bv xs ∧ BFs w F xs (frmB x.2.1)
theorem PcAt.keep {w w' : World} {F : Nat → Prop} {x : Sg} {bv : Value} (h : PcAt w F x bv) (hs : w.heap.size ≤ w'.heap.size) (hk : ∀ k, k < w.heap.size → F k → w'.heap[k]? = w.heap[k]?) : PcAt w' F x bv := by
  obtain ⟨xs, h1, h2⟩ := h
  exact ⟨xs, h1.keep hs hk, h2.keep hs hk⟩
theorem PcAt.mono {w : World} {F G : Nat → Prop} {x : Sg} {bv : Value} (h : PcAt w F x bv) (hG : ∀ k, k < w.heap.size → F k → G k) : PcAt w G x bv := by
  obtain ⟨xs, h1, h2⟩ := h
  exact ⟨xs, h1.mono hG, h2.mono hG⟩
def PcsAt (w : World) (F : Nat → Prop) (A : List Sg) (bvs : List Value) : Prop := A.length = bvs.length ∧ ∀ (i : Nat) (x : Sg) (bv : Value), A[i]? = some x → bvs[i]? = some bv → PcAt w F x bv
theorem PcsAt.keep {w w' : World} {F : Nat → Prop} {A : List Sg} {bvs : List Value} (h : PcsAt w F A bvs) (hs : w.heap.size ≤ w'.heap.size) (hk : ∀ k, k < w.heap.size → F k → w'.heap[k]? = w.heap[k]?) : PcsAt w' F A bvs := ⟨h.1, fun i x bv hx hb => (h.2 i x bv hx hb).keep hs hk⟩
theorem PcsAt.mono {w : World} {F G : Nat → Prop} {A : List Sg} {bvs : List Value} (h : PcsAt w F A bvs) (hG : ∀ k, k < w.heap.size → F k → G k) : PcsAt w G A bvs := ⟨h.1, fun i x bv hx hb => (h.2 i x bv hx hb).mono hG⟩
theorem PcsAt.snoc {w : World} {F : Nat → Prop} {A : List Sg} {bvs : List Value} {x : Sg} {bv : Value} (h : PcsAt w F A bvs) (k : PcAt w F x bv) : PcsAt w F (A ++ [x]) (bvs ++ [bv]) := by
  refine ⟨by simp [h.1], fun i y b hy hb => ?_⟩
  by_cases hi : i < A.length
  · rw [List.getElem?_append_left hi] at hy
    rw [List.getElem?_append_left (by rw [← h.1]; exact hi)] at hb
    exact h.2 i y b hy hb
  · rw [List.getElem?_append_right (by omega)] at hy
    rw [List.getElem?_append_right (by rw [← h.1]; omega), ← h.1] at hb
    have h0 : i - A.length = 0 := by
      rcases Nat.eq_zero_or_pos (i - A.length) with h | h
      · exact h
      · rw [List.getElem?_eq_none (by simp; omega)] at hy; cases hy
    rw [h0] at hy hb
    obtain rfl : x = y := by simpa using hy
    obtain rfl : bv = b := by simpa using hb
    exact k
theorem PcsAt.row {w w' : World} {base : Nat} {v v' : Value} {A : List Sg} {bvs : List Value} (h : PcsAt w (offRow base v) A bvs) (hg : w.grownBy w' v.ownBlock) (hv : v'.ownBlock = v.ownBlock ∨ v'.ownBlock = some w.heap.size) : PcsAt w' (offRow base v') A bvs := by
  have h1 : PcsAt w (fun b => offRow base v b ∧ offRow base v' b) A bvs := h.mono fun k hk hf => ⟨hf, hf.1, by
    rcases hv with e | e
    · rw [e]; exact hf.2
    · rw [e]; intro e2; injection e2 with e2; omega⟩
  obtain ⟨g1, g2, g3, g4, g5⟩ := hg
  exact (h1.keep g4 fun k hk hf => g5 k hk fun e => hf.1.2 e.symm).mono fun k _ hf => hf.2
theorem infoPiece : (Tryz.prog.info? 141).map (fun i => (i.zero, i.size, i.bytes)) = some (some (.agg #[.int .i64 0, .slice none 0 0, .int .i64 0, .int .i64 0]), 4, 48) := by kernel_rfl
theorem src_piece {W : World} (n wh sz : Int) (A : Option Addr) (m c : Nat) : Src Tryz.prog 4 135 (.slice (some ⟨W.heap.size, 0, none⟩) 1 1) 1 [.int .i64 n, .slice A m c, .int .i64 wh, .int .i64 sz] (W.alloc (.cells #[.int .i64 n, .slice A m c, .int .i64 wh, .int .i64 sz] 141)) := by
  refine Src.ofSlice _ Tryz.underlying135 ⟨W.heap.size, 0, none⟩ 1 1 _ rfl (fun j u hu => ?_) (by simp [Value.oneCell'])
  rw [add0, cell_of (alloc_at W _) j]
  simpa using hu
/-- A row of pieces, of its own. -/
structure PsOwn (w : World) (base : Nat) (v : Value) (A : List Sg) (bvs : List Value) : Prop where
  row : RowIs w 4 v A.length (piecesC A bvs)
  own : ∀ g, v.ownBlock = some g → base ≤ g
  pcs : PcsAt w (offRow base v) A bvs
theorem PsOwn.below {w w' : World} {base : Nat} {v : Value} {A : List Sg} {bvs : List Value} (h : PsOwn w base v A bvs) (hb : Below w.heap.size w w') : PsOwn w' base v A bvs := ⟨h.row.below hb, h.own, h.pcs.keep hb.size (fun k hk _ => hb.block k hk)⟩
theorem TP.read {w : World} {t : Nat} {T : Tp} {p : Pl} (h : TP w t T p) {x : Sg} (hx : x ∈ p.A) : Calls Tryz.prog 15 #[.pointer (some ⟨t, 0, none⟩), .int .i64 x.1] w fun e w' => ∃ v, e = .returned (.tuple #[v, .int .i64 0]) ∧ OwnBy w' w.heap.size v x.2.1 ∧ Below w.heap.size w w' := by
  have hm : x.1 ∈ numsOf p.A := List.mem_map_of_mem hx
  obtain ⟨i, e, hi, hn, hl⟩ := h.find hm
  have h1 := lookS_of_mem (n := x.1) (b := x.2.1) (s := x.2.2) h.rises.nodup hx
  rw [hl] at h1
  have hb : e.b = x.2.1 := congrArg Prod.fst (Option.some.inj h1)
  rw [← hb]
  exact read_hit h.tape (h.name hm) hi hn
theorem sizeS_mem {A : List Sg} {x : Sg} (h : x ∈ A) : x.2.1.length ≤ sizeS A := by
  unfold sizeS
  induction A with
  | nil => cases h
  | cons y A ih =>
    rw [List.map_cons, List.sum_cons]
    rcases List.mem_cons.1 h with rfl | h
    · omega
    · have := ih h; omega
theorem PsOwn.weaken {w : World} {b b' : Nat} {v : Value} {A : List Sg} {bvs : List Value} (h : PsOwn w b v A bvs) (hb : b' ≤ b) : PsOwn w b' v A bvs := ⟨h.row, fun g e => Nat.le_trans hb (h.own g e), h.pcs.mono fun k _ hk => ⟨Nat.le_trans hb hk.1, hk.2⟩⟩
def PiecesP (w : World) (p : Pl) (e : Ending) (w' : World) : Prop := Below w.heap.size w w' ∧ ∃ v bvs, e = .returned (.tuple #[v, .nilIface]) ∧ PsOwn w' w.heap.size v p.A bvs
set_option maxRecDepth 100000 in
set_option maxHeartbeats 4000000 in
theorem pieces_any {w : World} {j t : Nat} {T : Tp} {p : Pl} (hM : Mov w) (h : TP w t T p) (hj : w.cell? ⟨j, 0, none⟩ = some (.pointer (some ⟨t, 0, none⟩))) (hz : sizeS p.A ≤ 1000000) : Calls Tryz.prog 89 #[.pointer (some ⟨j, 0, none⟩)] w (PiecesP w p) := by
  have HS := Lib.hid (segs_any h.tape)
  have H := Lib.hid h
  have HM := Lib.hid hM
  have HJ := Lib.hid hj
  have HZ := Lib.hid hz
  have hf64 : p.A.length ≤ 64 := h.few
  clear h hM hz
  go_enter Tryz.func89, Tryz.ntmps89
  go_wp2_with fail
  refine (HS.out).mono ?_
  rintro e w1 ⟨v, ns, rfl, hrow, hperm, hso, hown, hb⟩
  have hns := H.out.nums hperm hso
  have hnl : ns.length = p.A.length := by rw [hns]; unfold numsOf; rw [List.length_map]
  have HNS := Lib.hid hns
  have HNL := Lib.hid hnl
  have HB := Lib.hid hb
  have HROW := Lib.hid hrow
  obtain ⟨Al, cl, rfl, hl1, hl2, _, hl4, _⟩ := hrow.form
  unfold maxLen at hl2
  clear hns hperm hso hb hrow hl4 hj hown
  go_wp2_with fail
  go_loopw [4, 18] (fun l i wx => ∃ (k : Nat) (bvs : List Value), k ≤ ns.length ∧ i = .int .i64 k ∧ PsOwn wx w1.heap.size l (p.A.take k) bvs ∧ Below w.heap.size w wx ∧ Below w1.heap.size w1 wx) (fun _ i _ => ns.length - (intOf i).toNat)
  case atStart => exact ⟨0, [], by omega, rfl, ⟨.inl ⟨rfl, rfl, rfl⟩, (fun g e => by cases e), ⟨rfl, fun i x bv hx => by simp at hx⟩⟩, HB.out, Below.refl _ _⟩
  case round =>
    obtain ⟨k, bvs, hk, rfl, hps, hb, hb1⟩ := hrel
    have HPS := Lib.hid hps
    have HBW := Lib.hid hb
    have HB1 := Lib.hid hb1
    clear hps hb hb1
    by_cases hlt : k < ns.length
    · have hkA : k < p.A.length := by omega
      have hxk : p.A[k]? = some p.A[k] := List.getElem?_eq_getElem hkA
      have HXK := Lib.hid hxk
      have hmem : p.A[k] ∈ p.A := List.getElem_mem hkA
      have hbl : (p.A[k]).2.1.length ≤ 1000000 := Nat.le_trans (sizeS_mem hmem) HZ.out
      obtain ⟨g, u, rfl, hg, _, hu, hcell⟩ := row_at (HROW.out.below HB1.out) hlt
      obtain rfl : u = .int .i64 (p.A[k]).1 := by
        rw [HNS.out] at hu
        unfold numsOf at hu
        rw [List.getElem?_map, List.getElem?_map, hxk] at hu
        exact (Option.some.inj hu).symm
      have HRD : Hid (∀ W, Below w.heap.size w W → Calls Tryz.prog 15 #[.pointer (some ⟨t, 0, none⟩), .int .i64 (p.A[k]).1] W fun e w' => ∃ v, e = .returned (.tuple #[v, .int .i64 0]) ∧ OwnBy w' W.heap.size v (p.A[k]).2.1 ∧ Below W.heap.size W w') := Lib.hid (fun W hW => (H.out.below hW).read hmem)
      have hjw := (HBW.out.cell (p := ⟨j, 0, none⟩) (World.block_lt_of_cell? _ _ HJ.out)).trans HJ.out
      have HLT := Lib.hid hlt
      have l1 : (k : Int) < (ns.length : Int) := by omega
      have hkl : (p.A.take k).length = k := by rw [List.length_take]; omega
      have HKL := Lib.hid hkl
      generalize p.A[k] = x at *
      obtain ⟨xn, xb, xs⟩ := x
      simp only at hbl HRD hcell
      have HBL := Lib.hid hbl
      have HAT := Lib.hid (fun w => at_ok xn w)
      clear hxk hmem hg hu hlt hk hkA hbl
      go_wp2_with fail
      refine (HRD.out _ HBW.out).mono ?_
      rintro e w3 ⟨vb, rfl, hob, hb3⟩
      have HB3 := Lib.hid hb3
      have HPS3 := Lib.hid (HPS.out.below hb3)
      have HW3 := Lib.hid (HBW.out.trans (hb3.mono HBW.out.size))
      have HALL := Lib.hid (all_new (HM.out.below HW3.out) hob.bis HBL.out)
      obtain ⟨Ab, cb, rfl, _, _, _⟩ := hob.bis
      clear hob hb3
      go_wp2_with fail
      refine (HAT.out _).mono ?_
      rintro e w3' ⟨rfl, rfl⟩
      go_wp2_with fail
      refine (HALL.out).mono ?_
      rintro e w4 ⟨bv, ys, ls, rfl, hos, hbo, hnv, hbe, h0, hb4⟩
      have hfr : frmB xb = ls := frmB_uniq hbe h0
      have HFR := Lib.hid hfr
      have HPS4 := Lib.hid (HPS3.out.below hb4)
      have HW4 := Lib.hid (HW3.out.trans (hb4.mono HW3.out.size))
      have hsz34 := hb4.size
      have hszw3 : w1.heap.size ≤ w3.heap.size := Nat.le_trans HB1.out.size HB3.out.size
      have HPC : Hid (PcAt w4 (offRow w1.heap.size u4) (xn, xb, xs) bv) := by
        have hold : ∀ b, w3.heap.size ≤ b → offRow w1.heap.size u4 b := fun b hb => ⟨by omega, fun e => by
          have := HPS3.out.row.lt b e
          omega⟩
        refine ⟨ys, (hos.vis).mono fun b _ hb => hold b hb, ⟨hbo.1.trans (by rw [hfr]), fun i y m hy hm => ⟨(hbo.2 i y m hy (by rw [← hfr]; exact hm)).1, fun a n c e => ?_⟩⟩⟩
        exact ⟨hold _ (hnv y (List.mem_of_getElem? hy) a n c e), ((hbo.2 i y m hy (by rw [← hfr]; exact hm)).2 a n c e).1⟩
      have hform : ∃ A5 n5 c5, bv = .slice A5 n5 c5 := by
        obtain ⟨A5, c5, e, _⟩ := hos.vis
        exact ⟨A5, _, c5, e⟩
      obtain ⟨A5, n5, c5, rfl⟩ := hform
      clear hos hbo hnv hbe h0 hfr hsz34 hszw3
      have HB41 : Hid (Below w1.heap.size w1 w4) := Lib.hid ((HB1.out.trans (HB3.out.mono HB1.out.size)).trans (hb4.mono (HB1.out.trans (HB3.out.mono HB1.out.size)).size))
      have HSRC := Lib.hid (src_piece (W := w4) xn (endP ls : Nat) (xb.length : Nat) A5 n5 c5)
      have hA5 := below_new (w := w4) (.cells #[.int .i64 xn, .slice A5 n5 c5, .int .i64 (endP ls : Nat), .int .i64 (xb.length : Nat)] 141)
      have HPS5 := Lib.hid (HPS4.out.below hA5)
      have HPC5 := Lib.hid (HPC.out.keep hA5.size (fun b hb _ => hA5.block b hb))
      have HW5 := Lib.hid (HW4.out.trans (hA5.mono HW4.out.size))
      have HB51 := Lib.hid (HB41.out.trans (hA5.mono HB41.out.size))
      have HROW5 : Hid (RowIs (w4.alloc (.cells #[.int .i64 xn, .slice A5 n5 c5, .int .i64 (endP ls : Nat), .int .i64 (xb.length : Nat)] 141)) 4 u4 k (piecesC (p.A.take k) bvs)) := by
        have := HPS5.out.row
        rwa [HKL.out] at this
      clear hA5 hb4 hkl
      generalize hee : endP ls = E at *
      have HEE := Lib.hid hee
      clear hee
      go_wp2_with (at_builtin; refine wpList_append_row _ _ Tryz.underlying135 infoPiece rfl (by decide) (by decide) _ rfl _ _ 135 rfl k 1 (piecesC (p.A.take k) bvs) [.int .i64 xn, .slice A5 n5 c5, .int .i64 (E : Nat), .int .i64 (xb.length : Nat)] _ _ rfl rfl HROW5.out HSRC.out ?_ ?_)
      · have h1 := HNL.out
        have h2 := HLT.out
        omega
      intro v' w' hrow hgrow hblk
      have HR := Lib.hid hrow
      have HG := Lib.hid hgrow
      have HBK := Lib.hid hblk
      clear hrow hgrow hblk
      go_wp2_with fail
      go_roundw
      case rel =>
        have e1 : p.A.take (k + 1) = p.A.take k ++ [(xn, xb, xs)] := by rw [List.take_add_one, HXK.out]; rfl
        have hl : (p.A.take k).length = bvs.length := HPS.out.pcs.1
        refine ⟨k + 1, bvs ++ [.slice A5 n5 c5], HLT.out, by go_num, ⟨?_, fun g' e => ?_, ?_⟩, HW5.out.grown HG.out HW5.out.size (fun g' e => Nat.le_trans HB.out.size (HPS5.out.own g' e)), HB51.out.grown HG.out HB51.out.size (fun g' e => ?_)⟩
        · rw [e1, piecesC_snoc _ _ _ _ hl, List.length_append, HKL.out]
          have := HR.out
          unfold pieceC
          rw [HFR.out, HEE.out]
          exact this
        · rcases HBK.out with e2 | e2
          · exact HPS5.out.own g' (by rw [← e2]; exact e)
          · rw [e2] at e
            injection e with e
            have := HB51.out.size
            rw [asz] at this
            omega
        · rw [e1]
          exact (HPS5.out.pcs.snoc HPC5.out).row HG.out (by rw [asz]; exact HBK.out)
        · exact HPS5.out.own g' e
      case measure => have := HLT.out; simp [intOf]; omega
    · obtain rfl : k = ns.length := by omega
      go_wp2_with fail
      go_ret2
      have := HPS.out
      rw [HNL.out, List.take_length] at this
      exact ⟨HBW.out, _, bvs, rfl, this.weaken HB.out.size⟩
end Go.Proofs.YtnegnokielmgkaaGreatDoor

namespace Go.Proofs.YtnegnokielmgkaaGreatDoor
open Go.RowKit

def trimP (p : Pl) (x : Sg) : Int × Pl := if endP (frmB x.2.1) = x.2.1.length then (0, p) else doS p 2 x.1 (endP (frmB x.2.1) : Nat) []
def pieceW (x : Sg) (bv : Value) : Value := .agg (pieceC x bv).toArray
theorem drP_of {w w1 w2 : World} {t : Nat} {T : Tp} {p q : Pl} {n E : Int} {v : Value} (hd : TPd w t T q w1) (hat : AtP n E w1 v w2) : ErrP E w2 v w2 ∧ TPd w t T q w2 := ⟨hat.is.err, hd.below hat.below⟩
set_option maxRecDepth 100000 in
set_option maxHeartbeats 2000000 in
theorem trim_j {w : World} {j t : Nat} {T : Tp} {p : Pl} {x : Sg} {A5 : Option Addr} {n5 c5 : Nat} (hG : Glob w) (hg : 0 ∉ T.blocks t) (h : TP w t T p) (hj : w.cell? ⟨j, 0, none⟩ = some (.pointer (some ⟨t, 0, none⟩))) (hjt : j ∉ T.blocks t) : Calls Tryz.prog 108 #[.pointer (some ⟨j, 0, none⟩), .agg #[.int .i64 x.1, .slice A5 n5 c5, .int .i64 (endP (frmB x.2.1) : Nat), .int .i64 (x.2.1.length : Nat)]] w (DrP w t T (trimP p x)) := by
  obtain ⟨xn, xb, xs⟩ := x
  have hA := below_new (w := w) (.cells #[.int .i64 xn, .slice A5 n5 c5, .int .i64 (endP (frmB xb) : Nat), .int .i64 (xb.length : Nat)] 141)
  have hat := alloc_at w (.cells #[.int .i64 xn, .slice A5 n5 c5, .int .i64 (endP (frmB xb) : Nat), .int .i64 (xb.length : Nat)] 141)
  have HW : Hid (trimP p (xn, xb, xs) = if endP (frmB xb) = xb.length then (0, p) else doS p 2 xn (endP (frmB xb) : Nat) []) := Lib.hid rfl
  show Calls Tryz.prog 108 #[.pointer (some ⟨j, 0, none⟩), .agg #[.int .i64 xn, .slice A5 n5 c5, .int .i64 (endP (frmB xb) : Nat), .int .i64 (xb.length : Nat)]] w _
  have H := Lib.hid h
  have HG := Lib.hid hG
  have Hg := Lib.hid hg
  have HJT := Lib.hid hjt
  have HJ := Lib.hid hj
  have hjl := World.block_lt_of_cell? _ _ hj
  generalize endP (frmB xb) = E at *
  generalize hL : xb.length = L at *
  have HA := Lib.hid hA
  have HAT := Lib.hid hat
  have hsz : (w.alloc (.cells #[.int .i64 xn, .slice A5 n5 c5, .int .i64 (E : Nat), .int .i64 (L : Nat)] 141)).heap.size = w.heap.size + 1 := asz _ _
  have HSZ := Lib.hid hsz
  clear h hG hg hjt hA hat hj hsz hL
  by_cases he : E = L
  · have HF : Hid (trimP p (xn, xb, xs) = (0, p)) := by rw [HW.out, if_pos he]; exact Lib.hid rfl
    have q1 : ((E : Int) == (L : Int)) = true := by rw [beq_iff_eq]; omega
    clear he
    go_enter Tryz.func108, Tryz.ntmps108
    go_wp2_with fail
    go_ret
    rw [HF.out]
    exact ⟨_, rfl, ErrP.none _, TPd.same H.out HA.out⟩
  · have HF : Hid (trimP p (xn, xb, xs) = doS p 2 xn (E : Nat) []) := by rw [HW.out, if_neg he]; exact Lib.hid rfl
    have q1 : ((E : Int) == (L : Int)) = false := by rw [beq_eq_false_iff_ne]; omega
    clear he
    go_enter Tryz.func108, Tryz.ntmps108
    go_wp2_with fail
    obtain ⟨W1, hW1⟩ : ∃ W1, W1 = w.alloc (.cells #[.int .i64 xn, .slice A5 n5 c5, .int .i64 (E : Nat), .int .i64 (L : Nat)] 141) := ⟨_, rfl⟩
    rw [← hW1] at HA HAT HSZ ⊢
    have k0 := cell_of HAT.out 0
    have k2 := cell_of HAT.out 2
    simp at k0 k2
    have kj := (HA.out.cell (p := ⟨j, 0, none⟩) hjl).trans HJ.out
    have HN : Hid (w.heap.size ∉ T.blocks t) := Lib.hid (fun hc => by have := H.out.tape.lt _ hc; omega)
    have HT : Hid (∀ W, Below W1.heap.size W1 W → Calls Tryz.prog 45 #[.pointer (some ⟨t, 0, none⟩), .int .i64 xn, .int .i64 (E : Nat)] W fun e w' => e = .returned (.int .i64 (doS p 2 xn (E : Nat) []).1) ∧ TPd W t T (doS p 2 xn (E : Nat) []).2 w' ∧ (w'.cell? ⟨w.heap.size, 0, none⟩ = some (.int .i64 xn) ∧ w'.cell? ⟨w.heap.size, 2, none⟩ = some (.int .i64 (E : Nat)) ∧ w'.cell? ⟨j, 0, none⟩ = some (.pointer (some ⟨t, 0, none⟩)))) := Lib.hid (fun W hW => by
      have hTP := H.out.below (HA.out.trans (hW.mono HA.out.size))
      refine (ttrim (HG.out.below (HA.out.trans (hW.mono HA.out.size))) hTP.tape Hg.out xn (E : Nat) []).mono fun e w' ⟨e1, hd⟩ => ?_
      have hpd := TPd.of hTP hd
      obtain ⟨T', _, ht, _⟩ := hpd
      have hcell : ∀ (b i : Nat) (u : Value), b < W1.heap.size → W1.cell? ⟨b, i, none⟩ = some u → b ∉ T.blocks t → w'.cell? ⟨b, i, none⟩ = some u := fun b i u hb hu hT => cell_touch ((hW.cell (p := ⟨b, i, none⟩) hb).trans hu) ht hT
      exact ⟨by rw [e1, doS_one hTP], TPd.of hTP hd, hcell _ _ _ (by rw [HSZ.out]; omega) k0 HN.out, hcell _ _ _ (by rw [HSZ.out]; omega) k2 HN.out, hcell _ _ _ (by rw [HSZ.out]; omega) kj HJT.out⟩)
    have HATJ := Lib.hid (fun E' W => at_j xn E' W)
    clear hW1
    go_region_held (fun W => W.cell? ⟨w.heap.size, 0, none⟩ = some (.int .i64 xn) ∧ W.cell? ⟨w.heap.size, 2, none⟩ = some (.int .i64 (E : Nat)) ∧ W.cell? ⟨j, 0, none⟩ = some (.pointer (some ⟨t, 0, none⟩))) ((first | go_keep | assumption)) (first | (go_at_call 45; refine (HT.out _ (below_drew (Below.refl _ _))).mono ?_; rintro e w2 ⟨rfl, hd, hS2⟩; have HD := Lib.hid hd) | (go_at_call 98; refine (HATJ.out _ _).mono ?_; rintro e w3 ⟨v, rfl, hat⟩; have HA3 := Lib.hid hat; have hS3 : w3.cell? ⟨w.heap.size, 0, none⟩ = some (.int .i64 xn) ∧ w3.cell? ⟨w.heap.size, 2, none⟩ = some (.int .i64 (E : Nat)) ∧ w3.cell? ⟨j, 0, none⟩ = some (.pointer (some ⟨t, 0, none⟩)) := ⟨(hat.below.cell (World.block_lt_of_cell? _ _ hS2.1)).trans hS2.1, (hat.below.cell (World.block_lt_of_cell? _ _ hS2.2.1)).trans hS2.2.1, (hat.below.cell (World.block_lt_of_cell? _ _ hS2.2.2)).trans hS2.2.2⟩))
    go_wp2_with fail
    go_ret
    rw [HF.out]
    have := drP_of (p := p) HD.out HA3.out
    exact ⟨_, rfl, this.1, (this.2).after ((below_drew (Below.refl _ _) : Below W1.heap.size W1 W1.drew) |> fun h => HA.out.trans (h.mono HA.out.size))⟩
end Go.Proofs.YtnegnokielmgkaaGreatDoor

namespace Go.Proofs.YtnegnokielmgkaaGreatDoor
open Go.RowKit

def mendP (A : List Sg) : Nat → Pl → Int × Pl × Nat
  | 0, p => (0, p, 0)
  | n + 1, p => match A[n]? with
    | none => (0, p, 0)
    | some x => if frmB x.2.1 ≠ [] then ((trimP p x).1, (trimP p x).2, n + 1)
      else if (doS p 3 x.1 0 []).1 ≠ 0 then ((doS p 3 x.1 0 []).1, (doS p 3 x.1 0 []).2, 0) else mendP A n (doS p 3 x.1 0 []).2
section
variable {A : List Sg} {n : Nat} {p p' : Pl} {x : Sg} {e : Int}
theorem mendP_some (hx : A[n]? = some x) (hf : ¬ frmB x.2.1 = []) : mendP A (n + 1) p = ((trimP p x).1, (trimP p x).2, n + 1) := by
  conv => lhs; unfold mendP
  rw [hx]
  exact if_pos hf
theorem mendP_err (hx : A[n]? = some x) (hf : frmB x.2.1 = []) (hd : doS p 3 x.1 0 [] = (e, p')) (he : ¬ e = 0) : mendP A (n + 1) p = (e, p', 0) := by
  conv => lhs; unfold mendP
  rw [hx]
  show (if frmB x.2.1 ≠ [] then _ else _) = _
  rw [if_neg (by simpa using hf), hd, if_pos he]
theorem mendP_on (hx : A[n]? = some x) (hf : frmB x.2.1 = []) (hd : doS p 3 x.1 0 [] = (0, p')) : mendP A (n + 1) p = mendP A n p' := by
  conv => lhs; unfold mendP
  rw [hx]
  show (if frmB x.2.1 ≠ [] then _ else _) = _
  rw [if_neg (by simpa using hf), hd, if_neg (by simp)]
end
/-- Pieces that lie somewhere, to be read. -/
structure PsR (w : World) (F : Nat → Prop) (g o : Nat) (A : List Sg) (bvs : List Value) : Prop where
  far : F g
  lt : g < w.heap.size
  pcs : PcsAt w F A bvs
  cells : ∀ (i : Nat) (x : Sg) (bv : Value), A[i]? = some x → bvs[i]? = some bv → ∀ (d : Nat) (u : Value), (pieceC x bv)[d]? = some u → w.cell? ⟨g, o + i * 4 + d, none⟩ = some u
theorem PsR.keep {w w' : World} {F : Nat → Prop} {g o : Nat} {A : List Sg} {bvs : List Value} (h : PsR w F g o A bvs) (hs : w.heap.size ≤ w'.heap.size) (hk : ∀ k, k < w.heap.size → F k → w'.heap[k]? = w.heap[k]?) : PsR w' F g o A bvs :=
  ⟨h.far, Nat.lt_of_lt_of_le h.lt hs, h.pcs.keep hs hk, fun i x bv hx hb d u hu => (World.cell?_of_block (a := ⟨g, o + i * 4 + d, none⟩) (hk g h.lt h.far)).trans (h.cells i x bv hx hb d u hu)⟩
theorem PsR.touch {S F : Nat → Prop} {w w' : World} {g o : Nat} {A : List Sg} {bvs : List Value} (h : PsR w F g o A bvs) (ht : Touch S w w') (hF : ∀ k, F k → ¬ S k) : PsR w' F g o A bvs := h.keep ht.size fun k hk hf => ht.block k hk (hF k hf)
theorem PsR.below {F : Nat → Prop} {w w' : World} {g o : Nat} {A : List Sg} {bvs : List Value} (h : PsR w F g o A bvs) (hb : Below w.heap.size w w') : PsR w' F g o A bvs := h.keep hb.size fun k hk _ => hb.block k hk
theorem PsOwn.read {w : World} {base : Nat} {v : Value} {A : List Sg} {bvs : List Value} (h : PsOwn w base v A bvs) : (v = .slice none 0 0 ∧ A = []) ∨ ∃ g cap, v = .slice (some ⟨g, 0, none⟩) A.length cap ∧ A.length ≤ cap ∧ cap ≤ maxLen ∧ PsR w (fun k => base ≤ k) g 0 A bvs := by
  rcases h.row with ⟨h1, h2, _⟩ | ⟨g, cap, rfl, h1, h2, h3⟩
  · exact .inl ⟨h1, List.length_eq_zero_iff.1 h2⟩
  · refine .inr ⟨g, cap, rfl, h2, h3.max, h.own g rfl, h3.lt, h.pcs.mono fun k _ hk => hk.1, fun i x bv hx hb d u hu => ?_⟩
    rw [Nat.zero_add]
    refine h3.holds _ _ ?_
    rw [piecesC_at A bvs i x bv hx hb d (by
      have := (List.getElem?_eq_some_iff.1 hu).1
      simpa [pieceC] using this)]
    exact hu
theorem PsR.at_ {w : World} {F : Nat → Prop} {g o : Nat} {A : List Sg} {bvs : List Value} (h : PsR w F g o A bvs) {i : Nat} (hi : i < A.length) : ∃ (x : Sg) (xs : List Value) (A5 : Option Addr) (c5 : Nat), A[i]? = some x ∧ xs.length = (frmB x.2.1).length ∧ VIs w F (.slice A5 xs.length c5) xs ∧ BFs w F xs (frmB x.2.1) ∧
    w.cell? ⟨g, o + i * 4, none⟩ = some (.int .i64 x.1) ∧ w.cell? ⟨g, o + i * 4 + 1, none⟩ = some (.slice A5 xs.length c5) ∧ w.cell? ⟨g, o + i * 4 + 2, none⟩ = some (.int .i64 (endP (frmB x.2.1) : Nat)) ∧ w.cell? ⟨g, o + i * 4 + 3, none⟩ = some (.int .i64 (x.2.1.length : Nat)) := by
  have hx : A[i]? = some A[i] := List.getElem?_eq_getElem hi
  have hb : bvs[i]? = some (bvs[i]'(by rw [← h.pcs.1]; exact hi)) := List.getElem?_eq_getElem _
  obtain ⟨xs, h1, h2⟩ := h.pcs.2 i _ _ hx hb
  have hc := h.cells i _ _ hx hb
  obtain ⟨A5, c5, e, k⟩ := h1
  rw [e] at hc
  exact ⟨A[i], xs, A5, c5, hx, h2.1, ⟨A5, c5, rfl, k⟩, h2, hc 0 _ rfl, hc 1 _ rfl, hc 2 _ rfl, hc 3 _ rfl⟩
def MendP (w : World) (t : Nat) (T : Tp) (g cap : Nat) (r : Int × Pl × Nat) (e : Ending) (w' : World) : Prop := ∃ lv v, e = .returned (.tuple #[lv, v]) ∧ ErrP r.1 w' v w' ∧ TPd w t T r.2.1 w' ∧ (r.1 = 0 → (r.2.2 = 0 ∧ lv = .slice none 0 0) ∨ (r.2.2 ≠ 0 ∧ lv = .slice (some ⟨g, 0, none⟩) r.2.2 cap))
set_option maxRecDepth 100000 in
set_option maxHeartbeats 4000000 in
theorem mend_none {w : World} {j t : Nat} {T : Tp} {p : Pl} (h : TP w t T p) : Calls Tryz.prog 90 #[.pointer (some ⟨j, 0, none⟩), .slice none 0 0] w (MendP w t T 0 0 (0, p, 0)) := by
  have H := Lib.hid h
  clear h
  go_enter Tryz.func90, Tryz.ntmps90
  go_wp2_with fail
  refine wp_loop_rounds 1 ?_
  rw [rounds_succ]
  go_wp2
  go_ret2
  exact ⟨_, _, rfl, ErrP.none _, TPd.same H.out (Below.refl _ _), fun _ => .inl ⟨rfl, rfl⟩⟩
set_option maxRecDepth 100000 in
set_option maxHeartbeats 4000000 in
theorem mend_any {w : World} {F : Nat → Prop} {j t g cap : Nat} {T : Tp} {p : Pl} {A : List Sg} {bvs : List Value} (hG : Glob w) (hg : 0 ∉ T.blocks t) (h : TP w t T p) (hj : w.cell? ⟨j, 0, none⟩ = some (.pointer (some ⟨t, 0, none⟩))) (hjt : j ∉ T.blocks t) (hR : PsR w F g 0 A bvs) (hF : ∀ k, F k → k ∉ T.blocks t) (hc : A.length ≤ cap) (hm : cap ≤ maxLen) (h64 : A.length ≤ 64) :
    Calls Tryz.prog 90 #[.pointer (some ⟨j, 0, none⟩), .slice (some ⟨g, 0, none⟩) A.length cap] w (MendP w t T g cap (mendP A A.length p)) := by
  have H := Lib.hid h
  have HG := Lib.hid hG
  have Hg := Lib.hid hg
  have HJ := Lib.hid hj
  have HJT := Lib.hid hjt
  have HR := Lib.hid hR
  have HF := Lib.hid hF
  unfold maxLen at hm
  clear h hG hg hj hjt hR hF
  go_enter Tryz.func90, Tryz.ntmps90
  go_wp2_with fail
  go_loopw [1] (fun l wx => ∃ (n : Nat) (p' : Pl), n ≤ A.length ∧ l = .slice (some ⟨g, 0, none⟩) n cap ∧ TPd w t T p' wx ∧ mendP A A.length p = mendP A n p') (fun l _ => match l with | .slice _ n _ => n | _ => 0)
  case atStart => exact ⟨A.length, p, Nat.le_refl _, rfl, TPd.same H.out (Below.refl _ _), rfl⟩
  case round =>
    obtain ⟨n, p', hn, rfl, hd, hme⟩ := hrel
    have HME := Lib.hid hme
    obtain ⟨T1, k1, k2, k3⟩ := hd
    have K1 := Lib.hid k1
    have K2 := Lib.hid k2
    have K3 := Lib.hid k3
    clear hme k1 k2 k3
    cases n with
    | zero =>
      go_wp2_with fail
      go_ret2
      rw [HME.out]
      exact ⟨_, _, rfl, ErrP.none _, ⟨T1, K1.out, K2.out, K3.out⟩, fun _ => .inl ⟨rfl, rfl⟩⟩
    | succ n =>
      have HN := Lib.hid hn
      obtain ⟨x, xs, A5, c5, hx, hxl, _, _, y0, y1, y2, y3⟩ := (HR.out.touch K2.out HF.out).at_ (i := n) (by omega)
      rw [Nat.zero_add] at y0 y1 y2 y3
      have HX := Lib.hid hx
      have HXL := Lib.hid hxl
      have hc1 : n + 1 ≤ cap := by omega
      have hc2 : n ≤ cap := by omega
      have q0 : ((n + 1 : Nat) : Int) = (n : Int) + 1 := by omega
      have q1 : (0 : Int) < (n : Int) + 1 := by omega
      have hA := below_new (w := wr) (.cells #[.int .i64 x.1, .slice A5 xs.length c5, .int .i64 (endP (frmB x.2.1) : Nat), .int .i64 (x.2.1.length : Nat)] 141)
      have hat := alloc_at wr (.cells #[.int .i64 x.1, .slice A5 xs.length c5, .int .i64 (endP (frmB x.2.1) : Nat), .int .i64 (x.2.1.length : Nat)] 141)
      have hsz : (wr.alloc (.cells #[.int .i64 x.1, .slice A5 xs.length c5, .int .i64 (endP (frmB x.2.1) : Nat), .int .i64 (x.2.1.length : Nat)] 141)).heap.size = wr.heap.size + 1 := asz _ _
      have HA := Lib.hid hA
      have HAT := Lib.hid hat
      have HSZ := Lib.hid hsz
      have hjr := cell_touch HJ.out K2.out HJT.out
      have HJR := Lib.hid hjr
      have hjl := World.block_lt_of_cell? _ _ hjr
      have HG1 : Hid (Glob (wr.alloc (.cells #[.int .i64 x.1, .slice A5 xs.length c5, .int .i64 (endP (frmB x.2.1) : Nat), .int .i64 (x.2.1.length : Nat)] 141))) := Lib.hid ((HG.out.touch' K2.out Hg.out).below hA)
      have Hg1 : Hid (0 ∉ T1.blocks t) := Lib.hid (far_of HG.out.lt Hg.out K3.out)
      have HJT1 : Hid (j ∉ T1.blocks t) := Lib.hid (far_of (World.block_lt_of_cell? _ _ HJ.out) HJT.out K3.out)
      clear hx hA hat hsz hjr
      by_cases hf : frmB x.2.1 = []
      · have hx0 : xs.length = 0 := by rw [hxl, hf]; rfl
        rw [hx0] at y1 HA HAT HSZ HG1
        have HFR := Lib.hid hf
        clear hxl hf hx0
        generalize hE : (endP (frmB x.2.1) : Nat) = E at *
        generalize hL : x.2.1.length = L at *
        clear hE hL
        generalize hxn : x.1 = xn at *
        have HXN := Lib.hid hxn
        clear hxn
        go_wp2_with fail
        obtain ⟨W1, hW1⟩ : ∃ W1, W1 = wr.alloc (.cells #[.int .i64 xn, .slice A5 0 c5, .int .i64 (E : Nat), .int .i64 (L : Nat)] 141) := ⟨_, rfl⟩
        rw [← hW1] at HA HAT HSZ HG1 ⊢
        have k0 := cell_of HAT.out 0
        simp at k0
        have kj := (HA.out.cell (p := ⟨j, 0, none⟩) hjl).trans HJR.out
        have HN1 : Hid (wr.heap.size ∉ T1.blocks t) := Lib.hid (fun hc => by have := K1.out.tape.lt _ hc; omega)
        have HT : Hid (∀ W, Below W1.heap.size W1 W → Calls Tryz.prog 46 #[.pointer (some ⟨t, 0, none⟩), .int .i64 xn] W fun e w' => e = .returned (.int .i64 (doS p' 3 xn 0 []).1) ∧ TPd W t T1 (doS p' 3 xn 0 []).2 w' ∧ (w'.cell? ⟨wr.heap.size, 0, none⟩ = some (.int .i64 xn) ∧ w'.cell? ⟨j, 0, none⟩ = some (.pointer (some ⟨t, 0, none⟩)))) := Lib.hid (fun W hW => by
          have hTP := K1.out.below (HA.out.trans (hW.mono HA.out.size))
          refine (tdrop (HG1.out.below hW) hTP.tape Hg1.out xn 0 []).mono fun e w' ⟨e1, hd⟩ => ?_
          have hpd := TPd.of hTP hd
          obtain ⟨T', _, ht, _⟩ := hpd
          have hcell : ∀ (b i : Nat) (u : Value), b < W1.heap.size → W1.cell? ⟨b, i, none⟩ = some u → b ∉ T1.blocks t → w'.cell? ⟨b, i, none⟩ = some u := fun b i u hb hu hT => cell_touch ((hW.cell (p := ⟨b, i, none⟩) hb).trans hu) ht hT
          have hjl' : j < wr.heap.size := hjl
          exact ⟨by rw [e1, doS_one hTP], TPd.of hTP hd, hcell _ _ _ (by rw [HSZ.out]; omega) k0 HN1.out, hcell _ _ _ (by rw [HSZ.out]; omega) kj HJT1.out⟩)
        have HATJ := Lib.hid (fun E' W => at_j xn E' W)
        clear hW1 y0 y1 y2 y3
        go_region_held (fun W => W.cell? ⟨wr.heap.size, 0, none⟩ = some (.int .i64 xn) ∧ W.cell? ⟨j, 0, none⟩ = some (.pointer (some ⟨t, 0, none⟩))) ((first | go_keep | assumption)) (first | (go_at_call 46; refine (HT.out _ (below_drew (Below.refl _ _))).mono ?_; rintro e w2 ⟨rfl, hd, hS2⟩; have HD := Lib.hid hd) | (go_at_call 98; refine (HATJ.out _ _).mono ?_; rintro e w3 ⟨v, rfl, hat⟩; have HA3 := Lib.hid hat; have hS3 : w3.cell? ⟨wr.heap.size, 0, none⟩ = some (.int .i64 xn) ∧ w3.cell? ⟨j, 0, none⟩ = some (.pointer (some ⟨t, 0, none⟩)) := ⟨(hat.below.cell (World.block_lt_of_cell? _ _ hS2.1)).trans hS2.1, (hat.below.cell (World.block_lt_of_cell? _ _ hS2.2)).trans hS2.2⟩))
        have HP3 := Lib.hid (drP_of (p := p') HD.out HA3.out)
        have HTPD : Hid (TPd w t T (doS p' 3 xn 0 []).2 w3) := Lib.hid (TPd.trans K2.out K3.out ((HP3.out.2).after (HA.out.trans ((below_drew (Below.refl _ _) : Below W1.heap.size W1 W1.drew).mono HA.out.size))))
        generalize hds : doS p' 3 xn 0 [] = ds at *
        obtain ⟨de, p3⟩ := ds
        have HDS := Lib.hid hds
        clear hds
        rw [← HXN.out] at HDS
        by_cases hde : de = 0
        · subst hde
          obtain rfl := HP3.out.1.is_nil rfl
          have HME2 : Hid (mendP A A.length p = mendP A n p3) := Lib.hid (by rw [HME.out]; exact mendP_on HX.out HFR.out HDS.out)
          go_wp2_with fail
          exact ⟨⟨n, p3, by have := HN.out; omega, rfl, HTPD.out, HME2.out⟩, Nat.lt_succ_self n⟩
        · obtain ⟨tt, u, rfl⟩ := HP3.out.1.form hde
          have HME2 : Hid (mendP A A.length p = (de, p3, 0)) := Lib.hid (by rw [HME.out]; exact mendP_err HX.out HFR.out HDS.out hde)
          have HDE := Lib.hid hde
          clear hde
          go_wp2_with fail
          go_ret2
          rw [HME2.out]
          exact ⟨_, _, rfl, HP3.out.1, HTPD.out, fun e => absurd e HDE.out⟩
      · have hx0 : 0 < xs.length := by rw [hxl]; exact List.length_pos_iff.2 hf
        have q2 : (0 : Int) < (xs.length : Int) := by omega
        have HTR := Lib.hid (trim_j (x := x) (A5 := A5) (n5 := xs.length) (c5 := c5) HG1.out Hg1.out (K1.out.below HA.out) ((HA.out.cell (p := ⟨j, 0, none⟩) hjl).trans HJR.out) HJT1.out)
        have HF2 : Hid (mendP A (n + 1) p' = ((trimP p' x).1, (trimP p' x).2, n + 1)) := Lib.hid (mendP_some HX.out hf)
        clear hxl hf
        generalize trimP p' x = tr at *
        obtain ⟨te, tp⟩ := tr
        generalize (endP (frmB x.2.1) : Nat) = E at *
        generalize x.2.1.length = L at *
        go_wp2_with fail
        refine (HTR.out).mono ?_
        rintro e w3 ⟨v, rfl, herr, hd⟩
        have HE := Lib.hid herr
        have HD := Lib.hid hd
        clear herr hd
        go_wp2_with fail
        go_ret2
        rw [HME.out, HF2.out]
        exact ⟨_, _, rfl, HE.out, TPd.trans K2.out K3.out (HD.out.after HA.out), fun _ => .inr ⟨by simp, rfl⟩⟩
end Go.Proofs.YtnegnokielmgkaaGreatDoor
