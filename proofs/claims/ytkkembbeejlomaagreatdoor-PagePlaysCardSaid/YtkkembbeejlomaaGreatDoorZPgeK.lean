/- The document's own store: Bytes. The law's same. -/
import Derived.Test.YtkkembbeejlomaaGreatDoorZPgeI
import Derived.Test.YtkkembbeejlomaaGreatDoorZPgdE
import Derived.Test.YtkkembbeejlomaaGreatDoorZOcrB
import Derived.Deep.CutRange
import Derived.Deep.DeepCutAuto
set_option linter.unusedSimpArgs false
set_option linter.unusedVariables false
set_option linter.unnecessarySimpa false
namespace Go.Proofs.YtkkembbeejlomaaGreatDoor
open Go.RowKit Go.Shelf Go.Sort Go.Lib

def RowW (r : Row) : Prop := r.k.length ≤ 20 ∧ -9223372036854775808 ≤ r.n ∧ r.n ≤ 9223372036854775807
theorem RowOk.w {r : Row} (h : RowOk r) : RowW r := ⟨by have := h.1; omega, h.2⟩
theorem strB_k (k : K) : (strB ⟨k.toArray⟩).length = (natB k.length).length + k.length := by
  unfold strB
  have e : (⟨k.toArray⟩ : ByteArray).size = k.length := by simp [ByteArray.size]
  rw [List.length_append, e]
set_option maxRecDepth 100000 in
set_option maxHeartbeats 8000000 in
theorem RBytes_any {w : World} {r : Nat} {most : Int} {v : Value} {us : List Value} {P : List (List Row)} (h : RAt w r most v us P) (hl : P.length ≤ 256) (h64 : ∀ p ∈ P, p.length ≤ 64) (hR : ∀ p ∈ P, ∀ r ∈ p, RowW r) :
    Calls Tryz.prog 11 #[.pointer (some ⟨r, 0, none⟩)] w fun e w' => ∃ v', e = .returned v' ∧ OwnBy w' w.heap.size v' (bytesP P) ∧ Below w.heap.size w w' := by
  obtain ⟨A, c, hv, hc1, hc2, _, _, hcell⟩ := h.row.form
  have ks : w.cell? ⟨r, 1, none⟩ = some v := cell_of h.head 1
  rw [hv] at ks
  unfold maxLen at hc2
  have HM : Hid (∀ W, Below w.heap.size w W → W.cell? ⟨r, 1, none⟩ = some (.slice A P.length c)) := Lib.hid (fun W hW => (hW.cell (p := ⟨r, 1, none⟩) (World.block_lt_of_cell? _ _ ks)).trans ks)
  have hlI : (P.length : Int) ≤ 256 := by omega
  have HN := Lib.hid (fnat_any P.length (by omega) w)
  have HCE := Lib.hid hcell
  have H := Lib.hid h
  have H64 := Lib.hid h64
  have HR := Lib.hid hR
  clear h hv hcell h64 hR
  go_enter Tryz.func11, Tryz.ntmps11
  go_wp2_with fail
  refine (HN.out).mono ?_
  rintro e w1 ⟨v1, rfl, ho1, hb1⟩
  have ks1 := HM.out _ hb1
  have HO1 := Lib.hid ho1
  have HB1 := Lib.hid hb1
  have hn9 := natB_le (n := P.length) (by omega)
  have HN9 := Lib.hid hn9
  clear ho1 hb1 HN ks hn9
  go_wp2_with fail
  clear ks1
  go_loopw [3, 20] (fun bv iv wr => ∃ (i : Nat) (l : List UInt8), i ≤ P.length ∧ iv = .int .i64 i ∧ l = natB P.length ++ (P.take i).flatMap pageB ∧ l.length ≤ 9 + i * 3000 ∧ OwnBy wr w.heap.size bv l ∧ Below w.heap.size w wr) (fun _ iv _ => P.length - (intOf iv).toNat)
  case atStart => exact ⟨0, _, Nat.zero_le _, rfl, by simp, by simpa using HN9.out, HO1.out, HB1.out⟩
  case round =>
    obtain ⟨i, l, hi, rfl, hl, hll, ho, hbw⟩ := hrel
    by_cases hlt : i < P.length
    · obtain ⟨p, hp⟩ : ∃ p, P[i]? = some p := ⟨_, List.getElem?_eq_getElem hlt⟩
      obtain ⟨u, hu, hsl⟩ := H.out.each i p hp
      obtain ⟨g, rfl, kc⟩ := HCE.out i u hu
      replace kc := (hbw.cell (World.block_lt_of_cell? _ _ kc)).trans kc
      have hsl2 := hsl.below hbw
      obtain ⟨Au, cu, rfl, hcu1, hcu2⟩ := hsl.form
      have hpl := H64.out p (List.mem_of_getElem? hp)
      have hpI : (p.length : Int) ≤ 64 := by omega
      unfold maxLen at hcu2
      have HRP := Lib.hid (HR.out p (List.mem_of_getElem? hp))
      have hiI : (i : Int) < (P.length : Int) := by omega
      have HLT := Lib.hid hlt
      have HP := Lib.hid hp
      have HL := Lib.hid (And.intro hl hll)
      have HO := Lib.hid ho
      have HB := Lib.hid hbw
      have HSL := Lib.hid hsl
      have HNP := Lib.hid (fnat_any p.length (by omega) wr)
      obtain ⟨Ab, cb, rfl⟩ := ho.len
      clear hp hu hsl hsl2 hl hll ho hbw hlt
      go_wp2_with fail
      refine (HNP.out).mono ?_
      rintro e w2 ⟨v2, rfl, ho2, hb2⟩
      have HOL := Lib.hid (HO.out.below hb2)
      have HSRC := Lib.hid (src_any ho2)
      have HB2 := Lib.hid (HB.out.trans (hb2.mono HB.out.size))
      have HLEN : Hid (l.length + (natB p.length).length ≤ 1073741824) := Lib.hid (by
        have := natB_le (n := p.length) (by omega)
        have := HL.out.2
        have := HLT.out
        omega)
      obtain ⟨A2, c2, rfl⟩ := ho2.len
      clear ho2 hb2 HNP
      go_wp2_with (at_builtin; refine wpList_append_by _ rfl _ _ 39 rfl w.heap.size l (natB p.length) _ _ rfl rfl HOL.out HSRC.out HLEN.out HB2.out.size ?_)
      intro v4 w4 ho4 hg4
      have hb4 := HB2.out.grown hg4 HB2.out.size HOL.out.rows
      have HO4 := Lib.hid ho4
      have HB4 := Lib.hid hb4
      clear ho4 hg4 hb4
      go_wp2_with fail
      go_loopw [3, 32] (fun bv jv wx => ∃ (j : Nat) (l2 : List UInt8), j ≤ p.length ∧ jv = .int .i64 j ∧ l2 = l ++ natB p.length ++ (p.take j).flatMap rowB ∧ l2.length ≤ 9 + i * 3000 + 9 + j * 40 ∧ OwnBy wx w.heap.size bv l2 ∧ Below w.heap.size w wx) (fun _ jv _ => p.length - (intOf jv).toNat)
      case atStart => exact ⟨0, _, Nat.zero_le _, rfl, by simp, by
        have := natB_le (n := p.length) (by omega)
        have := HL.out.2
        rw [List.length_append]
        omega, HO4.out, HB4.out⟩
      case round =>
        obtain ⟨wx, rfl⟩ : ∃ wx, wx = wr := ⟨_, rfl⟩
        obtain ⟨j, l2, hj, rfl, hl2, hll2, ho5, hbx⟩ := hrel
        by_cases hjt : j < p.length
        · obtain ⟨x, hx⟩ : ∃ x, p[j]? = some x := ⟨_, List.getElem?_eq_getElem hjt⟩
          obtain ⟨gg, oo, c', e, k1, k2⟩ := (HSL.out.below hbx).cells hx
          injection e with e1 e2 e3
          subst e1 e3
          clear e2
          obtain ⟨o1, o2, o3⟩ := HRP.out x (List.mem_of_getElem? hx)
          have hjI : (j : Int) < (p.length : Int) := by omega
          have hW1 := below_new (w := wx) (.cells #[.string ⟨x.k.toArray⟩, .int .i64 x.n] 42)
          have hat := alloc_at wx (.cells #[.string ⟨x.k.toArray⟩, .int .i64 x.n] 42)
          have HAT : Hid (∀ (W : World), (∀ g', g' = wx.heap.size → W.heap[g']? = (wx.alloc (.cells #[.string ⟨x.k.toArray⟩, .int .i64 x.n] 42)).heap[g']?) → W.cell? ⟨wx.heap.size, 0, none⟩ = some (.string ⟨x.k.toArray⟩) ∧ W.cell? ⟨wx.heap.size, 1, none⟩ = some (.int .i64 x.n)) := Lib.hid (fun W hW => by
            have := (hW _ rfl).trans hat
            exact ⟨cell_of this 0, cell_of this 1⟩)
          have HST := Lib.hid (fstr_any ⟨x.k.toArray⟩ (by simp only [ByteArray.size, List.size_toArray]; omega) (wx.alloc (.cells #[.string ⟨x.k.toArray⟩, .int .i64 x.n] 42)))
          have HNU := Lib.hid (fun W => fnum_any x.n o2 o3 W)
          have hk9 := natB_le (n := x.k.length) (by omega)
          have hn9 := natB_le (numN_le o2 o3)
          have hsk := strB_k x.k
          have HT : Hid (l ++ natB p.length ++ (p.take (j + 1)).flatMap rowB = (l2 ++ strB ⟨x.k.toArray⟩) ++ natB (numN x.n) ∧ ((l2 ++ strB ⟨x.k.toArray⟩) ++ natB (numN x.n)).length ≤ 9 + i * 3000 + 9 + (j + 1) * 40 ∧ l2.length + (strB ⟨x.k.toArray⟩).length ≤ 1073741824 ∧ (l2 ++ strB ⟨x.k.toArray⟩).length + (natB (numN x.n)).length ≤ 1073741824) := Lib.hid ⟨by rw [flat_snoc hx, hl2]; simp [rowB], by rw [List.length_append, List.length_append, hsk]; omega, by have := HLT.out; omega, by have := HLT.out; rw [List.length_append, hsk]; omega⟩
          have HB1x := Lib.hid (hbx.trans (hW1.mono hbx.size))
          have HO5 := Lib.hid (ho5.below hW1)
          have HOLT : Hid (∀ v' k, (∃ A c, v' = Value.slice A l2.length c) → OwnBy wx w.heap.size v' l2 → v'.ownBlock = some k → k < wx.heap.size) := Lib.hid (fun v' k _ h e => by
            rcases h with ⟨rfl, _⟩ | ⟨g', cap, rfl, h⟩
            · cases e
            · have e : g' = k := Option.some.inj e
              have := h.lt
              omega)
          have HO50 := Lib.hid ho5
          have HJT := Lib.hid hjt
          obtain ⟨A5, c5, rfl⟩ := ho5.len
          have HV5 : Hid (∀ k, (Value.slice A5 l2.length c5).ownBlock = some k → k < wx.heap.size) := Lib.hid (fun k e => HOLT.out _ k ⟨_, _, rfl⟩ HO50.out e)
          clear hl2 hll2 ho5 hbx hx hW1 hat hjt hk9 hn9 hsk HOLT HO50
          go_wp2_with fail
          refine (HST.out).mono ?_
          rintro e w6 ⟨v6, rfl, ho6, hb6⟩
          have HO56 := Lib.hid (HO5.out.below hb6)
          have HSRC6 := Lib.hid (src_any ho6)
          have HB6 := Lib.hid (HB1x.out.trans (hb6.mono HB1x.out.size))
          have HK6 : Hid (∀ k, k ≤ wx.heap.size → w6.heap[k]? = (wx.alloc (.cells #[.string ⟨x.k.toArray⟩, .int .i64 x.n] 42)).heap[k]?) := Lib.hid (fun k hk => hb6.block k (by rw [asz]; omega))
          obtain ⟨A6, c6, rfl⟩ := ho6.len
          clear ho6 hb6 HST
          go_wp2_with (at_builtin; refine wpList_append_by _ rfl _ _ 39 rfl w.heap.size l2 (strB ⟨x.k.toArray⟩) _ _ rfl rfl HO56.out HSRC6.out HT.out.2.2.1 HB6.out.size ?_)
          intro v7 w7 ho7 hg7
          obtain ⟨l3, hl3⟩ : ∃ l3, l2 ++ strB ⟨x.k.toArray⟩ = l3 := ⟨_, rfl⟩
          rw [hl3] at ho7 HT
          clear hl3
          have HB7 := Lib.hid (HB6.out.grown hg7 HB6.out.size HO56.out.rows)
          obtain ⟨k07, k17⟩ := HAT.out w7 (fun g' e => by
            subst e
            rw [hg7.block _ (by
              have h0 := HK6.out wx.heap.size (Nat.le_refl _)
              have h1 := alloc_at wx (.cells #[.string ⟨x.k.toArray⟩, .int .i64 x.n] 42)
              rw [h1] at h0
              exact heap_lt h0) (fun e => by have := HV5.out _ e.symm; omega), HK6.out _ (Nat.le_refl _)])
          have HO7 := Lib.hid ho7
          obtain ⟨A7, c7, rfl⟩ := ho7.len
          clear ho7 hg7
          go_wp2_with fail
          refine (HNU.out _).mono ?_
          rintro e w8 ⟨v8, rfl, ho8, hb8⟩
          have HO78 := Lib.hid (HO7.out.below hb8)
          have HSRC8 := Lib.hid (src_any ho8)
          have HB8 := Lib.hid (HB7.out.trans (hb8.mono HB7.out.size))
          obtain ⟨A8, c8, rfl⟩ := ho8.len
          clear ho8 hb8 k07 k17
          go_wp2_with (at_builtin; refine wpList_append_by _ rfl _ _ 39 rfl w.heap.size l3 (natB (numN x.n)) _ _ rfl rfl HO78.out HSRC8.out HT.out.2.2.2 HB8.out.size ?_)
          intro v9 w9 ho9 hg9
          have HB9 := Lib.hid (HB8.out.grown hg9 HB8.out.size HO78.out.rows)
          have HO9 := Lib.hid ho9
          clear ho9 hg9
          go_wp2_with fail
          go_roundw
          case rel => exact ⟨j + 1, _, HJT.out, by go_num, HT.out.1.symm, HT.out.2.1, HO9.out, HB9.out⟩
          case measure => have := HJT.out; simp [intOf]; omega
        · obtain rfl : j = p.length := by omega
          rw [List.take_length] at hl2
          have HFIN : Hid (∃ l', l' = natB P.length ++ (P.take (i + 1)).flatMap pageB ∧ l'.length ≤ 9 + (i + 1) * 3000 ∧ l' = l2) := Lib.hid ⟨l2, by rw [hl2, flat_snocP HP.out, HL.out.1]; simp [pageB], by omega, rfl⟩
          have HO5 := Lib.hid ho5
          have HB5 := Lib.hid hbx
          obtain ⟨A5, c5, rfl⟩ := ho5.len
          clear hl2 hll2 ho5 hbx
          go_wp2_with fail
          go_roundw
          case rel =>
            obtain ⟨l', e1, e2, e3⟩ := HFIN.out
            subst e3
            exact ⟨i + 1, _, HLT.out, by go_num, e1, e2, HO5.out, HB5.out⟩
          case measure => have := HLT.out; simp [intOf]; omega
    · obtain rfl : i = P.length := by omega
      rw [List.take_length] at hl
      have HF2 := Lib.hid (show OwnBy wr w.heap.size _ (bytesP P) by unfold bytesP; rw [← hl]; exact ho)
      have HB := Lib.hid hbw
      obtain ⟨A5, c5, rfl⟩ := ho.len
      clear hl hll ho hbw
      go_wp2_with fail
      go_ret
      exact ⟨_, rfl, HF2.out, HB.out⟩
end Go.Proofs.YtkkembbeejlomaaGreatDoor

namespace Go.Proofs.YtkkembbeejlomaaGreatDoor
open Go.RowKit Go.Shelf Go.Sort Go.Lib

/-- Another condition from here on. -/
theorem wpAnyH_into {P : Program} {ops : Array Oper} {Q : Exit → Act → World → Prop} {md : Region.Mode} {S T : World → Prop} (hS : ∀ w, T w → S w) : ∀ (fuel : Nat) (listed : Array Bool) (a : Act) (w : World), wpAnyH P md ops Q T fuel listed a w → wpAnyH P md ops Q S fuel listed a w
  | 0, _, _, _, h => h
  | fuel + 1, _, _, _, h => ⟨h.1, fun i hi => wpOp_mono (fun a' w' h' => ⟨hS _ h'.1, wpAnyH_into hS fuel _ a' w' h'.2⟩) (h.2 i hi)⟩
theorem PgsL.poke {w : World} {B i k : Nat} {v : Value} {L : List Pl} {P : List (List Row)} {a : Pl} {p : List Row} {r x : Row} (h : PgsL w B v L P) (ha : L[i]? = some a) (hp : P[i]? = some p) (hr : p[k]? = some r) (hk : r.k = x.k) (hB : B ≤ w.heap.size) :
    PgsL (w.setCell ⟨a.g, a.o + (k * 2 + 1), none⟩ (.int .i64 x.n)) B v L (P.set i (p.set k x)) ∧ Below B w (w.setCell ⟨a.g, a.o + (k * 2 + 1), none⟩ (.int .i64 x.n)) := by
  have hil := (List.getElem?_eq_some_iff.1 hp).1
  have hkl := (List.getElem?_eq_some_iff.1 hr).1
  have haL := List.mem_of_getElem? ha
  obtain ⟨hag, hav⟩ := h.offs a haL
  obtain ⟨hA, hpl⟩ := h.each i a p ha hp
  have hTA : TouchA a.g a.o (a.cap * 2) w (w.setCell ⟨a.g, a.o + (k * 2 + 1), none⟩ (.int .i64 x.n)) := by
    rw [setCell_one]
    exact TouchA.setCells w a.g a.o (a.cap * 2) _ _ (by omega) (by simp; omega)
  refine ⟨⟨?_, by rw [List.length_set]; exact h.len, fun j b q hj hq => ?_, h.offs, h.apart, h.own⟩, hTA.touch.below (fun k e => by rw [e]; exact hag) hB⟩
  · have e : pgsV L (P.set i (p.set k x)) = pgsV L P := by
      apply List.ext_getElem?
      intro j
      unfold pgsV
      rw [List.getElem?_zipWith, List.getElem?_zipWith]
      by_cases hij : i = j
      · subst hij
        rw [List.getElem?_set_self hil, hp, ha]
        simp only [plV, List.length_set]
      · rw [List.getElem?_set_ne hij]
    rw [e, List.length_set]
    exact RowIs.touch h.row hTA.touch (fun k hk e => hav (e ▸ hk))
  · by_cases hij : i = j
    · subst hij
      rw [List.getElem?_set_self hil] at hq
      obtain rfl := Option.some.inj hq
      rw [ha] at hj
      obtain rfl := Option.some.inj hj
      exact ⟨hA.poke hr hk, by rw [List.length_set]; exact hpl⟩
    · rw [List.getElem?_set_ne hij] at hq
      exact ⟨(h.each j b q hj hq).1.far hTA (off_of h.apart ha hj hij), (h.each j b q hj hq).2⟩
section
variable {w0 w w' : World} {s most : Nat} {P : List (List Row)} {k : K} {n : Int}
theorem Sr.scan (h : Sr w0 w s most P) : Calls Tryz.prog 24 #[.pointer (some ⟨s, 0, none⟩), .string ⟨#[]⟩, .string ⟨#[]⟩] w fun e w' => ∃ v', e = .returned v' ∧ RowsIs w' w.heap.size v' P.flatten ∧ Below w.heap.size w w' := by
  obtain ⟨v, L, h1, h2⟩ := h.st
  have e : P.flatten.filter (scanR [] []) = P.flatten := by
    rw [List.filter_eq_self]
    intro r _
    unfold scanR
    simp
  have := Scan_any h1 h.fine [] []
  rw [e] at this
  exact this
theorem Sr.bytes (h : Sr w0 w s most P) (hok : RowsOk P) : Calls Tryz.prog 25 #[.pointer (some ⟨s, 0, none⟩)] w fun e w' => ∃ v', e = .returned v' ∧ OwnBy w' w.heap.size v' (bytesP P) ∧ Below w.heap.size w w' := by
  obtain ⟨v, L, h1, h2⟩ := h.st
  exact Bytes_any h1 h.fine hok
theorem Sr.pagesL (h : Sr w0 w s most P) : Calls Tryz.prog 17 #[.pointer (some ⟨s, 0, none⟩)] w fun e w' => ∃ v' L', e = .returned v' ∧ PgsL w' w.heap.size v' L' P ∧ Below w.heap.size w w' := by
  obtain ⟨v, L, h1, h2⟩ := h.st
  exact PagesL_any h1 h.fine
end
theorem OwnBy.bis {w : World} {base : Nat} {v : Value} {l : List UInt8} (h : OwnBy w base v l) : BIs w v l := by
  rcases h with ⟨rfl, rfl⟩ | ⟨g, cap, rfl, h⟩
  · exact ⟨none, 0, rfl, Nat.le_refl _, by unfold maxLen; omega, fun i b hi => by simp at hi⟩
  · exact ⟨_, cap, rfl, h.le, h.max, fun i b hi => ⟨_, rfl, h.lt, by rw [add0]; exact h.holds i b hi⟩⟩
end Go.Proofs.YtkkembbeejlomaaGreatDoor
