/- lock: serve, walked. lock: edges of a lane, in plain words and as rows. -/
import Derived.Test.YtmchmlkbpocboaaGreatDoorZLokJ
set_option linter.unusedSimpArgs false
set_option linter.unusedVariables false
set_option linter.unnecessarySimpa false
namespace Go.Proofs.YtmchmlkbpocboaaGreatDoor
open Go.RowKit

set_option maxRecDepth 100000 in
set_option maxHeartbeats 4000000 in
theorem serve_any {w : World} {b gh : Nat} {rv : Value} {l : Ln} (h : LnAt w b gh rv l) (hl : l.row.length ≤ 100000) (hh : l.held.length + l.row.length ≤ 100000) : Calls Tryz.prog 48 #[.pointer (some ⟨b, 0, none⟩)] w (ServeP w b gh rv (serveP l.row.length l)) := by
  have HH := Lib.hid h
  obtain ⟨Q, hQ⟩ : ∃ Q, serveP l.row.length l = Q := ⟨_, rfl⟩
  rw [hQ]
  have HQ := Lib.hid hQ
  have HL := Lib.hid hl
  have HHL := Lib.hid hh
  clear h hl hh hQ
  go_enter Tryz.func48, Tryz.ntmps48
  go_wp2_with fail
  go_loopg [3] l.row.length (fun g sv wr => ∃ (l' : Ln) (rv' : Value) (S : List Int) (A : Option Addr) (c : Nat), g = l'.row.length ∧ sv = .slice A S.length c ∧ RowIs wr 1 (.slice A S.length c) S.length (ints S) ∧ (∀ g, (Value.slice A S.length c).ownBlock = some g → w.heap.size ≤ g) ∧ LnAt wr b gh rv' l' ∧ Q = ((serveP l'.row.length l').1, S ++ (serveP l'.row.length l').2) ∧ Touch (fun k => k = b ∨ k = gh) w wr ∧ rv'.ownBlock = rv.ownBlock ∧ S.length + l'.row.length ≤ 100000 ∧ l'.held.length + l'.row.length ≤ 100000)
  case atStart => exact ⟨l, rv, [], none, 0, rfl, rfl, RowIs.nil _ _, (fun g e => by cases e), HH.out, by rw [HQ.out]; simp, Touch.refl _ _, rfl, by simpa using HL.out, HHL.out⟩
  case round =>
    obtain ⟨l', rv', S, A, c, rfl, rfl, hS, hSo, hln, hq, hT, hro, hb1, hb2⟩ := hrel
    have HSR := Lib.hid hS
    have HSO := Lib.hid hSo
    have HLN := Lib.hid hln
    have HQ2 := Lib.hid hq
    have HT := Lib.hid hT
    have HRO := Lib.hid hro
    have HB1 := Lib.hid hb1
    have HB2 := Lib.hid hb2
    have k2 : wr.cell? ⟨b, 2, none⟩ = some rv' := cell_of hln.head 2
    cases hrow : l'.row with
    | nil =>
      have hrv := hln.row
      rw [hrow] at hrv
      obtain ⟨A2, cap2, rfl, _⟩ := hrv.form
      have HE := Lib.hid (serve_stop (n := l'.row.length) (.inl hrow))
      have k2 : wr.cell? ⟨b, 2, none⟩ = some (.slice A2 0 cap2) := k2
      clear hS hSo hln hq hT hro hb1 hb2 hrv hrow
      go_wp2_with fail
      go_ret
      refine ⟨_, _, _, _, rfl, ?_, HSO.out, ?_, HT.out, HRO.out⟩
      · rw [HQ2.out, HE.out]
        simpa using HSR.out
      · rw [HQ2.out, HE.out]
        exact HLN.out
    | cons cm r =>
      have hrl : l'.row.length = r.length + 1 := by rw [hrow]; rfl
      have hrv := hln.row
      rw [hrl, hrow] at hrv
      obtain ⟨g, o, cap, rfl, hc1, hc2, q0, q1, t1, t2⟩ := hrv.tail
      have HT1 := Lib.hid t1
      have HT2 := Lib.hid t2
      have hnum : InR64 cm.who := hln.nums cm (by rw [hrow]; exact List.mem_cons_self ..)
      have HLE := Lib.hid (lets_any hln hnum (by omega))
      have k2 : wr.cell? ⟨b, 2, none⟩ = some (.slice (some ⟨g, o, none⟩) (r.length + 1) cap) := k2
      unfold maxLen at hc2
      have hgt : (0 : Int) < (r.length : Int) + 1 := by omega
      have hcI : (r.length : Int) + 1 ≤ (cap : Int) := by omega
      obtain ⟨lv, hlv⟩ : ∃ lv, letsP l' cm = lv := ⟨_, rfl⟩
      rw [hlv] at HLE
      have HROW := Lib.hid (And.intro hrow hrl)
      have HNUM := Lib.hid hnum
      have hrI : (r.length : Int) + 1 ≤ 100000 := by omega
      have HC12 := Lib.hid (And.intro hc1 hc2)
      cases lv with
      | false =>
        have HE := Lib.hid (serve_stop (n := l'.row.length) (.inr ⟨cm, r, hrow, hlv⟩))
        clear hS hSo hln hq hT hro hb1 hb2 hrv hrow hlv t1 t2 hnum hrl hc1 hc2
        go_wp2_with fail
        refine (HLE.out).mono ?_
        rintro e w2 ⟨rfl, hb2⟩
        have HW2 := Lib.hid hb2
        clear hb2 k2 q0 q1
        go_wp2_with fail
        go_ret
        refine ⟨_, _, _, _, rfl, ?_, HSO.out, ?_, HT.out.after HW2.out, HRO.out⟩
        · rw [HQ2.out, HE.out]
          simpa using HSR.out.below HW2.out
        · rw [HQ2.out, HE.out]
          exact HLN.out.below HW2.out
      | true =>
        have HE := Lib.hid (serve_go hrow hlv)
        clear hS hSo hln hq hT hro hb1 hb2 hrv hrow hlv t1 t2 hnum hrl
        go_wp2_with fail
        refine (HLE.out).mono ?_
        rintro e w2 ⟨rfl, hb2⟩
        have HW2 := Lib.hid hb2
        have hln2 := HLN.out.below hb2
        have k2' : w2.cell? ⟨b, 2, none⟩ = some (.slice (some ⟨g, o, none⟩) (r.length + 1) cap) := cell_of hln2.head 2
        have p0 := (hb2.cell (p := ⟨g, o, none⟩) (heap_lt' q0)).trans q0
        have p1 : w2.cell? ⟨g, o + 1, none⟩ = some (.bool cm.mine) := (hb2.cell (p := ⟨g, o + 1, none⟩) (heap_lt' q1)).trans q1
        have hb3 := below_new (w := w2) (.cells #[.int .i64 cm.who, .bool cm.mine] 106)
        have hx3 := alloc_at w2 (.cells #[.int .i64 cm.who, .bool cm.mine] 106)
        obtain ⟨w3, hw3⟩ : ∃ w3, w3 = w2.alloc (.cells #[.int .i64 cm.who, .bool cm.mine] 106) := ⟨_, rfl⟩
        rw [← hw3] at hb3 hx3
        have hln3 := hln2.below hb3
        have k3 : w3.cell? ⟨b, 2, none⟩ = some (.slice (some ⟨g, o, none⟩) (r.length + 1) cap) := cell_of hln3.head 2
        have f3 := free0 hln3.head 2
        have hb23 := hb2.trans (hb3.mono hb2.size)
        have hfit : ∃ (o' : Nat), RowA w3 2 (.slice (some ⟨g, o', none⟩) r.length (cap - 1)) r.length (cmC r) ∧ (cap = 1 ∧ o' = o ∨ cap ≠ 1 ∧ o' = o + 2) := by
          by_cases hcap : cap = 1
          · exact ⟨o, (HT1.out hcap).below hb23, .inl ⟨hcap, rfl⟩⟩
          · exact ⟨o + 2, (HT2.out hcap).below hb23, .inr ⟨hcap, rfl⟩⟩
        obtain ⟨o', hr3, hfo⟩ := hfit
        have hset := hln3.setRow hr3 rfl (fun d hd => by rw [HROW.out.1]; exact List.mem_cons_of_mem _ hd)
        obtain ⟨w4, hw4⟩ : ∃ w4, w4 = w3.setCell ⟨b, 2, none⟩ (.slice (some ⟨g, o', none⟩) r.length (cap - 1)) := ⟨_, rfl⟩
        rw [← hw4] at hset
        have hx4 := (hset.2.block _ (heap_lt hx3) (fun e => by have := heap_lt hln2.head; omega)).trans hx3
        have HG := Lib.hid (give_any hset.1 HNUM.out)
        have HX4 := Lib.hid hx4
        have y0 : w4.cell? ⟨w2.heap.size, 0, none⟩ = some (.int .i64 cm.who) := cell_of hx4 0
        have y1 : w4.cell? ⟨w2.heap.size, 1, none⟩ = some (.bool cm.mine) := cell_of hx4 1
        have HW4 := Lib.hid hw4
        have HW3 := Lib.hid hw3
        have HT4 : Hid (Touch (fun k => k = b ∨ k = gh) w w4) := Lib.hid ((HT.out.after hb23).trans hset.2 (fun k _ e => .inl e))
        have HS4 : Hid (RowIs w4 1 (.slice A S.length c) S.length (ints S)) := Lib.hid ((HSR.out.below hb23).touch hset.2 (fun g hg e => by have h7 := HSO.out g hg; have h8 := heap_lt HH.out.head; omega))
        rw [hw3] at k3 f3
        have HB22 := Lib.hid hb2.size
        clear hb2 k2 q0 q1 hb3 hx3 hw3 hln3 hb23 hr3 hset hx4 hw4 hln2
        have HLB : Hid (b < w2.heap.size ∧ gh < w2.heap.size) := Lib.hid ⟨Nat.lt_of_lt_of_le (heap_lt HLN.out.head) HB22.out, Nat.lt_of_lt_of_le HLN.out.held.lt HB22.out⟩
        have HLW : Hid (b < w.heap.size ∧ gh < w.heap.size) := Lib.hid ⟨heap_lt HH.out.head, HH.out.held.lt⟩
        have HRB : Hid (∀ q, g = q → q < w.heap.size) := Lib.hid (fun q hq => HH.out.row.lt q (by rw [← HRO.out, ← hq]; rfl))
        have HGL : Hid ((giveP { l' with row := r } cm).held.length + r.length ≤ 100000) := Lib.hid (by
          have h7 := HB2.out
          have h8 := HROW.out.2
          unfold giveP
          simp only
          split
          · omega
          · rw [List.length_append, List.length_singleton]; omega)
        rcases hfo with ⟨hcap, rfl⟩ | ⟨hcap, rfl⟩
        · have hcT : (cap = 1) = True := eq_true hcap
          clear hcap
          go_wp2_with fail
          rw [← HW3.out, ← HW4.out]
          refine (HG.out).mono ?_
          rintro e w5 ⟨rfl, hg5, ht5⟩
          have hx5 := (ht5.block _ (heap_lt HX4.out) (fun e => by have h7 := HLB.out; omega)).trans HX4.out
          have v0 : w5.cell? ⟨w2.heap.size, 0, none⟩ = some (.int .i64 cm.who) := cell_of hx5 0
          have hS5 := HS4.out.touch ht5 (fun g hg e => by have h7 := HSO.out g hg; have h8 := HLW.out; omega)
          have HT5 := Lib.hid (HT4.out.trans ht5 (fun k _ e => e))
          obtain ⟨v6, w6, hr6, hS6, ht6, ho6⟩ := app_int (w := w5) cm.who 38 hS5 (by have := HB1.out; omega)
          obtain ⟨A6, c6, rfl, _⟩ := id hS6.form
          have HR6 := Lib.hid hr6
          have HO6 : Hid (∀ g, (Value.slice A6 (S ++ [cm.who]).length c6).ownBlock = some g → w.heap.size ≤ g) := Lib.hid (fun g hg => (ho6 g hg).elim (HSO.out g) (fun e => by have := HT5.out.size; omega))
          have HF : Hid (LnAt w6 b gh (.slice (some ⟨g, o', none⟩) r.length (cap - 1)) (giveP { l' with row := r } cm) ∧ Touch (fun k => k = b ∨ k = gh) w w6) := Lib.hid (by
            refine ⟨hg5.keep ht6.size (ht6.block _ (heap_lt hg5.head) (fun e => by have h7 := HSO.out _ e; have h8 := HLW.out; omega)) (ht6.block _ hg5.held.lt (fun e => by have h7 := HSO.out _ e; have h8 := HLW.out; omega)) (fun q hq => ht6.block _ (hg5.row.lt q hq) (fun e => by
              have h7 := HSO.out _ e
              have h8 := HRB.out q (by cases hq; rfl)
              omega)), ?_⟩
            exact HT5.out.trans ht6 (fun k hk e => by have h7 := HSO.out k e; omega))
          have HS6 := Lib.hid hS6
          have hl6 : (S ++ [cm.who]).length = S.length + 1 := by simp
          rw [hl6] at HS6 HO6 HR6
          clear hg5 ht5 hx5 hS5 hr6 hS6 ht6 ho6 y0 y1 hl6
          go_wp2_with (at_builtin; refine wpList_app_run rfl _ _ _ _ rfl rfl rfl HR6.out ?_)
          go_roundg r.length
          case measure => have := HROW.out.2; omega
          case rel => exact ⟨giveP { l' with row := r } cm, _, S ++ [cm.who], A6, c6, rfl, by simp, by simpa using HS6.out, by simpa using HO6.out, HF.out.1, by rw [HQ2.out, HE.out]; simp, HF.out.2, HRO.out, by have h7 := HB1.out; have h8 := HROW.out.2; simp; show _ + r.length ≤ _; omega, HGL.out⟩
        · have hcF : (cap = 1) = False := eq_false hcap
          clear hcap
          go_wp2_with fail
          rw [← HW3.out, ← HW4.out]
          refine (HG.out).mono ?_
          rintro e w5 ⟨rfl, hg5, ht5⟩
          have hx5 := (ht5.block _ (heap_lt HX4.out) (fun e => by have h7 := HLB.out; omega)).trans HX4.out
          have v0 : w5.cell? ⟨w2.heap.size, 0, none⟩ = some (.int .i64 cm.who) := cell_of hx5 0
          have hS5 := HS4.out.touch ht5 (fun g hg e => by have h7 := HSO.out g hg; have h8 := HLW.out; omega)
          have HT5 := Lib.hid (HT4.out.trans ht5 (fun k _ e => e))
          obtain ⟨v6, w6, hr6, hS6, ht6, ho6⟩ := app_int (w := w5) cm.who 38 hS5 (by have := HB1.out; omega)
          obtain ⟨A6, c6, rfl, _⟩ := id hS6.form
          have HR6 := Lib.hid hr6
          have HO6 : Hid (∀ g, (Value.slice A6 (S ++ [cm.who]).length c6).ownBlock = some g → w.heap.size ≤ g) := Lib.hid (fun g hg => (ho6 g hg).elim (HSO.out g) (fun e => by have := HT5.out.size; omega))
          have HF : Hid (LnAt w6 b gh (.slice (some ⟨g, o + 2, none⟩) r.length (cap - 1)) (giveP { l' with row := r } cm) ∧ Touch (fun k => k = b ∨ k = gh) w w6) := Lib.hid (by
            refine ⟨hg5.keep ht6.size (ht6.block _ (heap_lt hg5.head) (fun e => by have h7 := HSO.out _ e; have h8 := HLW.out; omega)) (ht6.block _ hg5.held.lt (fun e => by have h7 := HSO.out _ e; have h8 := HLW.out; omega)) (fun q hq => ht6.block _ (hg5.row.lt q hq) (fun e => by
              have h7 := HSO.out _ e
              have h8 := HRB.out q (by cases hq; rfl)
              omega)), ?_⟩
            exact HT5.out.trans ht6 (fun k hk e => by have h7 := HSO.out k e; omega))
          have HS6 := Lib.hid hS6
          have hl6 : (S ++ [cm.who]).length = S.length + 1 := by simp
          rw [hl6] at HS6 HO6 HR6
          clear hg5 ht5 hx5 hS5 hr6 hS6 ht6 ho6 y0 y1 hl6
          go_wp2_with (at_builtin; refine wpList_app_run rfl _ _ _ _ rfl rfl rfl HR6.out ?_)
          go_roundg r.length
          case measure => have := HROW.out.2; omega
          case rel => exact ⟨giveP { l' with row := r } cm, _, S ++ [cm.who], A6, c6, rfl, by simp, by simpa using HS6.out, by simpa using HO6.out, HF.out.1, by rw [HQ2.out, HE.out]; simp, HF.out.2, HRO.out, by have h7 := HB1.out; have h8 := HROW.out.2; simp; show _ + r.length ≤ _; omega, HGL.out⟩
end Go.Proofs.YtmchmlkbpocboaaGreatDoor

namespace Go.Proofs.YtmchmlkbpocboaaGreatDoor
open Go.RowKit

/-- An edge from the one that stands at place i. -/
def EAt (l : Ln) (i : Nat) (e : Int × Int) : Prop := ∃ c, l.row[i]? = some c ∧ ((∃ h ∈ l.held, h ≠ c.who ∧ togP l.mine c.mine = false ∧ e = (c.who, h)) ∨ ∃ j x, j < i ∧ l.row[j]? = some x ∧ togP x.mine c.mine = false ∧ e = (c.who, x.who))
/-- The edges of the first k, some of them more than once. -/
def EOk (l : Ln) (k : Nat) (E : List (Int × Int)) : Prop := (∀ e, e ∈ E ↔ ∃ i, i < k ∧ EAt l i e) ∧ E.length ≤ k * (l.held.length + l.row.length)
def edC (E : List (Int × Int)) : List Value := E.flatMap fun e => [.int .i64 e.1, .int .i64 e.2]
theorem edC_len (E : List (Int × Int)) : (edC E).length = E.length * 2 := by
  unfold edC
  induction E with
  | nil => rfl
  | cons c l ih =>
    rw [List.flatMap_cons, List.length_append, ih]
    show 2 + l.length * 2 = (l.length + 1) * 2
    omega
theorem edC_app (a b : List (Int × Int)) : edC (a ++ b) = edC a ++ edC b := by unfold edC; rw [List.flatMap_append]
theorem edC_one (E : List (Int × Int)) : ∀ u ∈ edC E, u.oneCell' = true := fun u hu => by
  unfold edC at hu
  obtain ⟨c, _, h⟩ := List.mem_flatMap.1 hu
  simp only [List.mem_cons, List.not_mem_nil, or_false] at h
  rcases h with rfl | rfl <;> rfl
theorem edC_at : ∀ {l : List (Int × Int)} {i : Nat} {c : Int × Int}, l[i]? = some c → (edC l)[i * 2]? = some (.int .i64 c.1) ∧ (edC l)[i * 2 + 1]? = some (.int .i64 c.2)
  | [], _, _, h => by cases h
  | d :: l, 0, c, h => by cases h; exact ⟨rfl, rfl⟩
  | d :: l, i + 1, c, h => by
    obtain ⟨h1, h2⟩ := edC_at (l := l) (i := i) (c := c) h
    have e : edC (d :: l) = [.int .i64 d.1, .int .i64 d.2] ++ edC l := rfl
    rw [e]
    refine ⟨?_, ?_⟩
    · rw [List.getElem?_append_right (by simp; omega), ← h1]; congr 1; simp; omega
    · rw [List.getElem?_append_right (by simp; omega), ← h2]; congr 1; simp; omega
theorem infoE : (Tryz.prog.info? 49).map (fun i => (i.zero, i.size, i.bytes)) = some (some (.agg #[.int .i64 0, .int .i64 0]), 2, 16) := by kernel_rfl
/-- A row of edges of one's own, in blocks of P. -/
def ERow (P : Nat → Prop) (wr : World) (s : Value) (E : List (Int × Int)) : Prop := ∃ A c, s = .slice A E.length c ∧ RowIs wr 2 (.slice A E.length c) E.length (edC E) ∧ ∀ g, (Value.slice A E.length c).ownBlock = some g → P g
theorem ERow.below {P : Nat → Prop} {wr w' : World} {s : Value} {E : List (Int × Int)} (h : ERow P wr s E) (hb : Below wr.heap.size wr w') : ERow P w' s E := by
  obtain ⟨A, c, rfl, h1, h2⟩ := h
  exact ⟨A, c, rfl, h1.below hb, h2⟩
theorem ERow.touch {P S : Nat → Prop} {wr w' : World} {s : Value} {E : List (Int × Int)} (h : ERow P wr s E) (ht : Touch S wr w') (hS : ∀ k, S k → ¬ P k) : ERow P w' s E := by
  obtain ⟨A, c, rfl, h1, h2⟩ := h
  exact ⟨A, c, rfl, h1.touch ht (fun g hg e => hS g e (h2 g hg)), h2⟩
theorem ERow.less {P Q : Nat → Prop} {wr : World} {s : Value} {E : List (Int × Int)} (h : ERow P wr s E) (hPQ : ∀ k, k < wr.heap.size → P k → Q k) : ERow Q wr s E := by
  obtain ⟨A, c, rfl, h1, h2⟩ := h
  exact ⟨A, c, rfl, h1, fun g hg => hPQ g (h1.lt g hg) (h2 g hg)⟩
/-- An edge is put at the end. -/
theorem app_edge {P : Nat → Prop} {w wr : World} {A : Option Addr} {c : Nat} {E : List (Int × Int)} (x y : Int) (ty : TypeId) (h1 : RowIs wr 2 (.slice A E.length c) E.length (edC E)) (h2 : ∀ g, (Value.slice A E.length c).ownBlock = some g → P g) (hP : ∀ g, P g → w.heap.size ≤ g) (hPn : ∀ g, wr.heap.size ≤ g → P g) (hb : Below w.heap.size w wr) (hl : E.length ≤ 16777000) :
    ∃ A' c' w', (Builtin.append_ #[46, 46] ty #[.slice A E.length c, .slice (some ⟨wr.heap.size, 0, none⟩) 1 1]).run Tryz.prog (wr.alloc (.cells #[.int .i64 x, .int .i64 y] 49)) = .ok (.slice A' (E.length + 1) c') w' ∧ RowIs w' 2 (.slice A' (E.length + 1) c') (E.length + 1) (edC (E ++ [(x, y)])) ∧ (∀ g, (Value.slice A' (E.length + 1) c').ownBlock = some g → P g) ∧ Below w.heap.size w w' ∧ Touch (fun k => (Value.slice A E.length c).ownBlock = some k) wr w' := by
  have hbn := below_new (w := wr) (.cells #[.int .i64 x, .int .i64 y] 49)
  have hx := alloc_at wr (.cells #[.int .i64 x, .int .i64 y] 49)
  have hsrc : Src Tryz.prog 2 46 (.slice (some ⟨wr.heap.size, 0, none⟩) 1 1) 1 [.int .i64 x, .int .i64 y] (wr.alloc (.cells #[.int .i64 x, .int .i64 y] 49)) :=
    Src.ofSlice _ Tryz.underlying46 ⟨wr.heap.size, 0, none⟩ 1 1 _ rfl (fun j u hu => by rw [add0, cell_of hx j]; simpa using hu) (by simp [Value.oneCell'])
  obtain ⟨v', w', hr, h3, h4, h5⟩ := run_append_row (wr.alloc (.cells #[.int .i64 x, .int .i64 y] 49)) 46 49 ty 46 Tryz.underlying46 infoE rfl (by omega) (by omega) (.slice A E.length c) E.length 1 (edC E) [.int .i64 x, .int .i64 y] _ (h1.below hbn) hsrc (by omega)
  obtain ⟨A', c', rfl, _⟩ := id h3.form
  have ho : ∀ g, (Value.slice A' (E.length + 1) c').ownBlock = some g → P g := fun g hg => by
    rcases h5 with e | e
    · exact h2 g (e ▸ hg)
    · rw [e] at hg
      have := Option.some.inj hg
      rw [asz] at this
      exact hPn g (by omega)
  have ht : Touch (fun k => (Value.slice A E.length c).ownBlock = some k) wr w' := (Touch.of_below hbn).grown h4 (fun k hk _ => hk)
  exact ⟨A', c', w', hr, by rw [edC_app]; exact h3, ho, hb.trans (ht.below (fun k hk => hP k (h2 k hk)) hb.size), ht⟩
theorem edges_mem (l : Ln) (e : Int × Int) : e ∈ edgesP l ↔ ∃ i, i < l.row.length ∧ EAt l i e := by
  unfold edgesP EAt
  rw [List.mem_flatMap]
  constructor
  · rintro ⟨i, hi, he⟩
    rw [List.mem_range] at hi
    refine ⟨i, hi, ?_⟩
    cases hc : l.row[i]? with
    | none => rw [hc] at he; cases he
    | some c =>
      rw [hc] at he
      refine ⟨c, rfl, ?_⟩
      rcases List.mem_append.1 he with he | he
      · obtain ⟨h, hh, rfl⟩ := List.mem_map.1 he
        obtain ⟨h1, h2⟩ := List.mem_filter.1 hh
        rw [Bool.and_eq_true, bne_iff_ne, Bool.not_eq_true'] at h2
        exact .inl ⟨h, h1, h2.1, h2.2, rfl⟩
      · obtain ⟨x, hx, rfl⟩ := List.mem_map.1 he
        obtain ⟨h1, h2⟩ := List.mem_filter.1 hx
        rw [Bool.not_eq_true'] at h2
        obtain ⟨j, hj, e⟩ := List.mem_take_iff_getElem.1 h1
        exact .inr ⟨j, x, by omega, by rw [List.getElem?_eq_getElem (by omega), e], h2, rfl⟩
  · rintro ⟨i, hi, c, hc, he⟩
    refine ⟨i, List.mem_range.2 hi, ?_⟩
    rw [hc]
    rcases he with ⟨h, h1, h2, h3, rfl⟩ | ⟨j, x, hj, hx, h3, rfl⟩
    · refine List.mem_append_left _ (List.mem_map.2 ⟨h, List.mem_filter.2 ⟨h1, ?_⟩, rfl⟩)
      rw [Bool.and_eq_true, bne_iff_ne, Bool.not_eq_true']
      exact ⟨h2, h3⟩
    · refine List.mem_append_right _ (List.mem_map.2 ⟨x, List.mem_filter.2 ⟨?_, by rw [h3]; rfl⟩, rfl⟩)
      obtain ⟨hjl, e⟩ := List.getElem?_eq_some_iff.1 hx
      exact List.mem_take_iff_getElem.2 ⟨j, by omega, e⟩
end Go.Proofs.YtmchmlkbpocboaaGreatDoor
