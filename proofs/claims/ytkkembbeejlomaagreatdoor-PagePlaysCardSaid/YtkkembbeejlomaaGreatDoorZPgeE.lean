/- load. load and Load. Load. The document's own store: Holds. -/
import Derived.Test.YtkkembbeejlomaaGreatDoorZPgeB
set_option linter.unusedSimpArgs false
set_option linter.unusedVariables false
set_option linter.unnecessarySimpa false
namespace Go.Proofs.YtkkembbeejlomaaGreatDoor
open Go.RowKit Go.Shelf Go.Sort Go.Lib

theorem pgsV_snoc {L : List Pl} {P : List (List Row)} {a : Pl} {p : List Row} (h : L.length = P.length) : pgsV (L ++ [a]) (P ++ [p]) = pgsV L P ++ [plV a p] := by
  unfold pgsV
  rw [List.zipWith_append h]
  rfl
/-- One more page. -/
theorem St.push {W W' : World} {s most : Nat} {v v2 : Value} {L : List Pl} {P : List (List Row)} {a : Pl} {p : List Row} (h : St W s most v L P) (hA : Area W 2 a.g a.o a.cap (pgC p)) (hpl : p.length ≤ a.cap) (hnew : ∀ k, Owns s v L k → k ≠ a.g)
    (hrow : RowIs W' 1 v2 (P.length + 1) (pgsV L P ++ [plV a p])) (hg : W.grownBy W' v.ownBlock) (hblk : v2.ownBlock = v.ownBlock ∨ v2.ownBlock = some W.heap.size) :
    St (W'.setCell ⟨s, 1, none⟩ v2) s most v2 (L ++ [a]) (P ++ [p]) ∧ (∀ k, Owns s v2 (L ++ [a]) k → Owns s v L k ∨ k = a.g ∨ k = W.heap.size) ∧ Touch (Owns s v L) W (W'.setCell ⟨s, 1, none⟩ v2) := by
  have hs := heap_lt h.head
  have ht1 : Touch (fun k => v.ownBlock = some k) W W' := Touch.grown (Touch.refl _ _) hg (fun k e _ => e)
  have hhead1 : W'.heap[s]? = _ := (ht1.block s hs h.off).trans h.head
  have hv2s : v2.ownBlock ≠ some s := by
    rcases hblk with e | e
    · rw [e]; exact h.off
    · rw [e]; intro e2; have e2 : W.heap.size = s := Option.some.inj e2; omega
  have ht2 : Touch (fun k => k = s) W' (W'.setCell ⟨s, 1, none⟩ v2) := Touch.setCell (S := fun k => k = s) (Touch.refl _ _) ⟨s, 1, none⟩ (fun _ => rfl) _
  have hT : Touch (Owns s v L) W (W'.setCell ⟨s, 1, none⟩ v2) := (ht1.mono (fun k _ e => Or.inr (Or.inl e))).trans (ht2.mono (T := Owns s v L) (fun k _ e => Or.inl e)) (fun i _ e => e)
  have hv2a : ∀ b, b < W.heap.size → v.ownBlock ≠ some b → v2.ownBlock ≠ some b := fun b hb hne => by
    rcases hblk with e | e
    · rw [e]; exact hne
    · rw [e]; intro e2; have e2 : W.heap.size = b := Option.some.inj e2; omega
  have hareaT : ∀ (b : Pl) (q : List Row), Area W 2 b.g b.o b.cap (pgC q) → b.g ≠ s → v.ownBlock ≠ some b.g → Area (W'.setCell ⟨s, 1, none⟩ v2) 2 b.g b.o b.cap (pgC q) := fun b q hb h1 h2 => (hb.touch ht1 h2).touch ht2 h1
  refine ⟨⟨by simpa using set_at hhead1 1 v2, ?_, by simp [h.len], fun i b q hi hq => ?_, fun b hb => ?_, ?_, hv2s⟩, fun k hk => ?_, hT⟩
  · rw [pgsV_snoc h.len, List.length_append]
    exact RowIs.touch hrow ht2 (fun b e e2 => hv2s (e2 ▸ e))
  · by_cases hil : i < L.length
    · rw [List.getElem?_append_left hil] at hi
      rw [List.getElem?_append_left (by rw [← h.len]; exact hil)] at hq
      obtain ⟨h1, h2⟩ := h.each i b q hi hq
      obtain ⟨h3, h4⟩ := h.offs b (List.mem_of_getElem? hi)
      exact ⟨hareaT b q h1 h3 h4, h2⟩
    · have hie : i = L.length := by
        have := (List.getElem?_eq_some_iff.1 hi).1
        rw [List.length_append, List.length_singleton] at this
        omega
      subst hie
      simp only [List.getElem?_concat_length] at hi
      rw [h.len, List.getElem?_concat_length] at hq
      obtain rfl := Option.some.inj hi
      obtain rfl := Option.some.inj hq
      exact ⟨hareaT a p hA (fun e => hnew s (.inl rfl) e.symm) (fun e => hnew _ (.inr (.inl e)) rfl), hpl⟩
  · rcases List.mem_append.1 hb with hb | hb
    · obtain ⟨h3, h4⟩ := h.offs b hb
      exact ⟨h3, hv2a b.g (h.owns_lt _ (.inr (.inr ⟨b, hb, rfl⟩))) h4⟩
    · obtain rfl := List.mem_singleton.1 hb
      exact ⟨fun e => hnew s (.inl rfl) e.symm, hv2a b.g hA.lt (fun e => hnew _ (.inr (.inl e)) rfl)⟩
  · rw [List.pairwise_append]
    refine ⟨h.apart, by simp, fun b hb c hc => ?_⟩
    obtain rfl := List.mem_singleton.1 hc
    exact .inl (hnew _ (.inr (.inr ⟨b, hb, rfl⟩)))
  · rcases hk with rfl | hk | ⟨b, hb, rfl⟩
    · exact .inl (.inl rfl)
    · rcases hblk with e | e
      · exact .inl (.inr (.inl (e ▸ hk)))
      · rw [e] at hk
        exact .inr (.inr (Option.some.inj hk).symm)
    · rcases List.mem_append.1 hb with hb | hb
      · exact .inl (.inr (.inr ⟨b, hb, rfl⟩))
      · obtain rfl := List.mem_singleton.1 hb
        exact .inr (.inl rfl)
theorem form_at {w' : World} {ev' : Value} {i : Int} {c : List Lk} (h4 : c ≠ []) (h5 : NumOk c) (h6 : codeOf c = 6) (h7 : c.length ≤ 2) (h2 : ErrIs w' (onto (.plc i) c) ev') : FormErrN 3 w' ev' := by
  cases c with
  | nil => exact absurd rfl h4
  | cons k r =>
    refine ⟨.plc i :: k :: r, h2, by simp, fun x hx => ?_, ?_, ?_⟩
    · rcases List.mem_cons.1 hx with hx | hx
      · cases hx
      · exact h5 x hx
    · rw [← h6]
      rfl
    · simp only [List.length_cons] at h7 ⊢
      omega
theorem onto_ne {k : Lk} {c : List Lk} (h : c ≠ []) : onto k c ≠ [] := by
  cases c with
  | nil => exact absurd rfl h
  | cons x r => simp [onto]
/-- A page that was read may stand behind the others. -/
theorem next_page {most : Nat} {bs : List UInt8} {P : List (List Row)} {q : Nat} {p : List Row} {st2 : Option Nat} (h : nextP most bs P (some q) = some (p, st2)) (hP : PagesOk most P) : PagesOk most (P ++ [p]) ∧ p ≠ [] := by
  have e : pagesS most bs 1 P (some q) = some (P ++ [p], st2) := by
    rw [pagesS_next, h]
    rfl
  obtain ⟨T, q2, _, _, _, h4, _⟩ := pagesS_only 1 e hP
  exact ⟨h4, (h4.page p (by simp)).1⟩
end Go.Proofs.YtkkembbeejlomaaGreatDoor

namespace Go.Proofs.YtkkembbeejlomaaGreatDoor
open Go.RowKit Go.Shelf Go.Sort Go.Lib

theorem empty_any {w : World} {most : Nat} (hm : 2 ≤ most ∧ most ≤ 64) :
    Calls Tryz.prog 14 #[.int .i64 most] w fun e w' => e = .returned (.tuple #[.pointer (some ⟨w.heap.size, 0, none⟩), .nilIface]) ∧ w' = w.alloc (.cells #[.int .i64 most, .slice none 0 0] 64) := by
  have h1 : (2 : Int) ≤ (most : Int) := by omega
  have h2 : (most : Int) ≤ 64 := by omega
  go_enter Tryz.func14, Tryz.ntmps14
  go_wp2_with fail
  refine bodyPost_ret (v := .tuple #[.pointer (some ⟨w.heap.size, 0, none⟩), .nilIface]) (by simp [results, Tryz.results14, go_sem]) rfl ?_
  exact ⟨rfl, rfl⟩
/-- What load leaves. -/
def LoadPost (w : World) (g most : Nat) (o : Option (List (List Row))) (e : Ending) (w' : World) : Prop :=
  Only g w w' ∧ ((o = none ∧ ∃ ev, e = .returned (.tuple #[.pointer none, ev]) ∧ FormErrN 3 w' ev) ∨ ∃ P s v L, o = some P ∧ e = .returned (.tuple #[.pointer (some ⟨s, 0, none⟩), .nilIface]) ∧ St w' s most v L P ∧ PagesOk most P ∧ ∀ k, Owns s v L k → w.heap.size ≤ k)
def contP (most : Nat) (bs : List UInt8) (o : Option (List (List Row) × Option Nat)) : Option (List (List Row)) := match o with
  | none => none
  | some (P, st) => if st = some bs.length then some P else none
theorem loadP_cont (most : Nat) (bs : List UInt8) : loadP most bs = contP most bs (pagesS most bs (natS bs (some 0)).1 [] (natS bs (some 0)).2) := by
  unfold loadP contP
  rfl
set_option maxRecDepth 100000 in
set_option maxHeartbeats 8000000 in
theorem load_any {w : World} {g : Nat} {A : Option Addr} {cap : Nat} {bs : List UInt8} {most : Nat} (hm : 2 ≤ most ∧ most ≤ 64) (hGl : Glob w) (hgE : g ≠ 0) (hR : Rd w g A cap bs 0 .nilIface []) :
    Calls Tryz.prog 33 #[.pointer (some ⟨g, 0, none⟩), .int .i64 most] w (LoadPost w g most (loadP most bs)) := by
  rw [loadP_cont]
  obtain ⟨n, st1, hn⟩ : ∃ n st1, natS bs (some 0) = (n, st1) := ⟨_, _, rfl⟩
  have hn64 := natS_le bs (some 0)
  have hnone : st1 = none → n = 0 := fun e => by
    subst e
    unfold natS at hn
    simp only at hn
    split at hn
    · exact (Prod.mk.inj hn).1.symm
    · cases (Prod.mk.inj hn).2
  rw [hn] at hn64 ⊢
  simp only at hn64 ⊢
  have hgl := ErrIs.lt hR.blk
  have hb0 := below_new (w := w) (.cells #[.int .i64 most, .slice none 0 0] 64)
  have hat := alloc_at w (.cells #[.int .i64 most, .slice none 0 0] 64)
  obtain ⟨w0, hw0⟩ : ∃ w0, w0 = w.alloc (.cells #[.int .i64 most, .slice none 0 0] 64) := ⟨_, rfl⟩
  rw [← hw0] at hb0 hat
  have hst : St w0 w.heap.size most (.slice none 0 0) [] [] := by
    refine ⟨hat, RowIs.nil _ _, rfl, ?_, ?_, List.Pairwise.nil, ?_⟩
    · intro i a p ha; simp at ha
    · intro a ha; cases ha
    · intro e; cases e
  have HN := Lib.hid (nat_u (st := some 0) (Rd.below hR hb0))
  rw [hn] at HN
  have HST := Lib.hid hst
  have HR0 := Lib.hid hR
  have HGL := Lib.hid hGl
  have HGE := Lib.hid hgE
  have HB0 := Lib.hid hb0
  have HEM := Lib.hid (empty_any (w := w) hm)
  have HNONE := Lib.hid hnone
  have HM := Lib.hid hm
  clear hR hn hst hb0 hat hGl hgE hnone hm
  go_enter Tryz.func33, Tryz.ntmps33
  go_wp2_with fail
  refine (HEM.out).mono ?_
  rintro e w0' ⟨rfl, hw0'⟩
  rw [← hw0] at hw0'
  subst hw0'
  clear hw0 HEM
  go_wp2_with fail
  refine (HN.out).mono ?_
  rintro e w1 ⟨rfl, hR1, hO1⟩
  have HST1 := Lib.hid (HST.out.touch hO1.touch (fun k hk => by
    rcases hk with rfl | hk | ⟨a, ha, _⟩
    · omega
    · cases hk
    · cases ha))
  have HR1 := Lib.hid hR1
  have HO1 := Lib.hid ((Only.of_below (bt := g) HB0.out).trans hO1)
  clear hR1 hO1 HN HST
  go_wp2_with fail
  go_loopw [21] (fun iv wr => ∃ (i : Nat) (P : List (List Row)) (st : Option Nat) (v : Value) (L : List Pl), i ≤ n ∧ iv = .int .u64 i ∧ P.length = i ∧ St wr w.heap.size most v L P ∧ (∀ k, Owns w.heap.size v L k → w.heap.size ≤ k) ∧ PagesOk most P ∧ RdS wr g A cap bs st ∧ (st = none → n = 0) ∧ Only g w wr ∧ pagesS most bs n [] st1 = pagesS most bs (n - i) P st) (fun iv _ => n - (intOf iv).toNat)
  case atStart => exact ⟨0, [], st1, _, _, Nat.zero_le _, rfl, rfl, HST1.out, (fun k hk => by
    rcases hk with rfl | hk | ⟨a, ha, _⟩
    · exact Nat.le_refl _
    · cases hk
    · cases ha), pages_ok_nil, HR1.out, HNONE.out, HO1.out, rfl⟩
  case round =>
    obtain ⟨i, P, st, v, L, hi, rfl, hPl, hSt, hOwn, hOk, hRd, hst, hOw, hcont⟩ := hrel
    by_cases hlt : i < n
    · obtain ⟨q, rfl⟩ : ∃ q, st = some q := by
        cases st with
        | none => have := hst rfl; omega
        | some q => exact ⟨q, rfl⟩
      obtain ⟨m0, hm0⟩ : ∃ m0, n - i = m0 + 1 := ⟨n - i - 1, by omega⟩
      rw [hm0, pagesS_next] at hcont
      have HM0 : Hid (n - (i + 1) = m0) := Lib.hid (by omega)
      have hPlen := hOk.len
      have hgO : ∀ k, Owns w.heap.size v L k → k ≠ g := fun k hk => by have := hOwn k hk; omega
      have hgw : g < wr.heap.size := Nat.lt_of_lt_of_le hgl hOw.size
      have HNX : Hid (Calls Tryz.prog 57 #[.pointer (some ⟨w.heap.size, 0, none⟩), .pointer (some ⟨g, 0, none⟩)] wr (NextPost wr g A cap bs (nextP most bs P (some q)))) := Lib.hid (by
        by_cases hc : (natS bs (some q)).1 < 1 ∨ min most (256 - P.flatten.length) < (natS bs (some q)).1
        · have e : nextP most bs P (some q) = none := by unfold nextP; rw [if_pos hc]
          rw [e]
          refine (next_not hSt HM.out hOk.total hRd hgO hc).mono ?_
          rintro e w' ⟨ev, rfl, h1, h2⟩
          exact ⟨h2, .inl ⟨rfl, ev, rfl, h1⟩⟩
        · obtain ⟨n1, o1, hn1⟩ : ∃ n1 o1, natS bs (some q) = (n1, o1) := ⟨_, _, rfl⟩
          have hc2 := hc
          rw [hn1] at hc2
          simp only [not_or, Nat.not_lt] at hc2
          obtain ⟨q1, rfl⟩ : ∃ q1, o1 = some q1 := by
            cases o1 with
            | none =>
              unfold natS at hn1
              simp only at hn1
              split at hn1
              · have := (Prod.mk.inj hn1).1; omega
              · cases (Prod.mk.inj hn1).2
            | some q1 => exact ⟨q1, rfl⟩
          have e : nextP most bs P (some q) = rowsS bs n1 P.flatten [] (some q1) := by unfold nextP; rw [if_neg hc, hn1]
          rw [e]
          exact next_rows hSt HM.out hOk.total (fun p hp => (hOk.page p hp).1) hPlen (fun p hp => Nat.le_trans (hOk.page p hp).2 HM.out.2) (HGL.out.only hOw HGE.out) HGE.out hRd hgO hn1 hc2.1 (by omega) (by omega))
      have HS := Lib.hid (And.intro hSt (And.intro hOwn hOk))
      have HCONT := Lib.hid hcont
      have HOW := Lib.hid hOw
      have HPL := Lib.hid hPl
      have HLT := Lib.hid hlt
      have HGO := Lib.hid hgO
      have HGW := Lib.hid hgw
      have hiI : (i : Int) < (n : Int) := by omega
      have hi256 : (i : Int) ≤ 256 := by omega
      clear hcont hSt hOwn hOk hRd hst hOw hPl hm0 hgO hgw hPlen hi
      go_wp2_with fail
      refine (HNX.out).mono ?_
      rintro e w2 ⟨hO2, hcase⟩
      have HO2 := Lib.hid hO2
      rcases hcase with ⟨hnx, ev, rfl, hev⟩ | ⟨p, q2, v', hnx, rfl, hrw, hR2⟩
      · obtain ⟨c, hc1, hc2, hc3, hc4, hc5⟩ := id hev
        obtain ⟨t2, u2, rfl⟩ := hc1.form2 hc2
        have HC1 := Lib.hid (And.intro hc1 (And.intro hc2 (And.intro hc3 (And.intro hc4 hc5))))
        have HNO : Hid (contP most bs (pagesS most bs n [] st1) = none) := Lib.hid (by rw [HCONT.out, hnx]; rfl)
        clear hO2 hev hnx hc1 hc2 HNX hc3 hc4 hc5
        go_wp2_with fail
        refine (at_any _ HC1.out.1).mono ?_
        rintro e w3 ⟨ev3, rfl, hev3, hb3⟩
        obtain ⟨t3, u3, rfl⟩ := hev3.form2 (onto_ne HC1.out.2.1)
        have HFE := Lib.hid (form_at HC1.out.2.1 HC1.out.2.2.1 HC1.out.2.2.2.1 HC1.out.2.2.2.2 hev3)
        have HB3 := Lib.hid hb3
        clear hev3 hb3
        go_wp2_with fail
        refine bodyPost_ret (v := .tuple #[.pointer none, .iface t3 u3]) (by simp [results, Tryz.results33, go_sem]) rfl ?_
        exact ⟨(HOW.out.trans HO2.out).trans (Only.of_below HB3.out), .inl ⟨HNO.out, _, rfl, HFE.out⟩⟩
      · obtain ⟨hok2, hpne⟩ := next_page hnx HS.out.2.2
        obtain ⟨Ap, cp, hv', hcp1, hcp2, hcpn, hcps, _⟩ := hrw.1.form
        obtain ⟨gp, hgp⟩ : ∃ gp, Ap = some ⟨gp, 0, none⟩ := by
          cases Ap with
          | none => have := (hcpn rfl).1; exact absurd (List.length_eq_zero_iff.1 this) hpne
          | some a => obtain ⟨g', e, _⟩ := hcps a rfl; exact ⟨g', by rw [e]⟩
        subst hgp
        subst hv'
        have hgpn : wr.heap.size ≤ gp := hrw.2 gp rfl
        obtain ⟨hAr, _, _⟩ := hrw.1.area (pgC_one _)
        have hS2 := HS.out.1.touch hO2.touch (fun k hk => HGO.out k hk)
        have hone : Value.oneCell' (.slice (some ⟨gp, 0, none⟩) p.length cp) = true := rfl
        have hb3 := below_new (w := w2) (.cells #[.slice (some ⟨gp, 0, none⟩) p.length cp] 40)
        have hat3 := alloc_at w2 (.cells #[.slice (some ⟨gp, 0, none⟩) p.length cp] 40)
        have hS3 := hS2.below hb3
        obtain ⟨Av, cv, hv, hcv1, hcv2, _⟩ := hS3.row.form
        have ks : w2.cell? ⟨w.heap.size, 1, none⟩ = some v := cell_of hS2.head 1
        rw [hv] at ks
        have HSRC : Hid (Src Tryz.prog 1 29 (.slice (some ⟨w2.heap.size, 0, none⟩) 1 1) 1 [plV ⟨gp, 0, cp⟩ p] (w2.alloc (.cells #[.slice (some ⟨gp, 0, none⟩) p.length cp] 40))) := Lib.hid (Src.ofSlice _ Tryz.underlying29 ⟨w2.heap.size, 0, none⟩ 1 1 [plV ⟨gp, 0, cp⟩ p] rfl (fun j u hu => by
          have hadd : (⟨w2.heap.size, 0, none⟩ : Addr).add j = ⟨w2.heap.size, j, none⟩ := by unfold Addr.add; split <;> simp_all
          rw [hadd, cell_of hat3 j]
          simpa [plV] using hu) (fun u hu => by
          obtain rfl := List.mem_singleton.1 hu
          rfl))
        have HROW : Hid (RowIs (w2.alloc (.cells #[.slice (some ⟨gp, 0, none⟩) p.length cp] 40)) 1 (.slice Av P.length cv) P.length (pgsV L P)) := Lib.hid (by rw [← hv]; exact hS3.row)
        have HV := Lib.hid hv
        have HOK2 := Lib.hid hok2
        have HPUSH : Hid (∀ W' v2, RowIs W' 1 v2 (P.length + 1) (pgsV L P ++ [plV ⟨gp, 0, cp⟩ p]) → (w2.alloc (.cells #[.slice (some ⟨gp, 0, none⟩) p.length cp] 40)).grownBy W' (Value.slice Av P.length cv).ownBlock → (v2.ownBlock = (Value.slice Av P.length cv).ownBlock ∨ v2.ownBlock = some (w2.heap.size + 1)) →
            (W'.cell? ⟨w.heap.size, 1, none⟩ = some (.slice Av P.length cv) ∧ W'.frozen? ⟨w.heap.size, 1, none⟩ = false) ∧ St (W'.setCell ⟨w.heap.size, 1, none⟩ v2) w.heap.size most v2 (L ++ [⟨gp, 0, cp⟩]) (P ++ [p]) ∧ (∀ k, Owns w.heap.size v2 (L ++ [⟨gp, 0, cp⟩]) k → w.heap.size ≤ k) ∧ Only g w (W'.setCell ⟨w.heap.size, 1, none⟩ v2) ∧ RdS (W'.setCell ⟨w.heap.size, 1, none⟩ v2) g A cap bs (some q2)) := Lib.hid (by
          intro W' v2 h1 h2 h3
          rw [← hv] at h2 h3
          have hsz := HOW.out.size
          have hsz2 := hO2.size
          obtain ⟨k1, k2, k3⟩ := hS3.push (a := ⟨gp, 0, cp⟩) (hAr.below hb3) hcp1 (fun k hk => by
            have := hS2.owns_lt
            have := HS.out.1.owns_lt k hk
            show k ≠ gp
            omega) h1 h2 (by rw [asz]; exact h3)
          have hbel : Below w.heap.size w2 (W'.setCell ⟨w.heap.size, 1, none⟩ v2) := (hb3.mono (by omega)).trans (k3.below (fun k hk => HS.out.2.1 k hk) (by rw [asz]; omega))
          have ht1 : Touch (fun k => v.ownBlock = some k) _ W' := Touch.grown (Touch.refl _ _) h2 (fun k e _ => e)
          have hhead1 : W'.heap[w.heap.size]? = _ := (ht1.block w.heap.size (heap_lt hS3.head) hS3.off).trans hS3.head
          refine ⟨⟨by rw [← hv]; exact cell_of hhead1 1, free0 hhead1 1⟩, k1, fun k hk => ?_, (HOW.out.trans hO2).below_after hbel (Nat.le_refl _), Rd.keepB HR0.out hR2 hbel⟩
          rcases k2 k hk with h | h | h
          · exact HS.out.2.1 k h
          · have h : k = gp := h
            omega
          · rw [asz] at h; omega)
        have HNXE : Hid (pagesS most bs n [] st1 = pagesS most bs (n - (i + 1)) (P ++ [p]) (some q2)) := Lib.hid (by rw [HCONT.out, hnx, HM0.out])
        clear hO2 hnx hrw hR2 HNX hok2 hpne hcp1 hcpn hcps hgpn hAr hS2 hb3 hat3 hS3 hcp2 hv
        unfold maxLen at hcv2
        have hPI : (P.length : Int) ≤ 256 := by have := HPL.out; omega
        go_wp2_with (at_builtin; refine wpList_append_row _ _ Tryz.underlying29 infoP rfl (by decide) (by decide) _ rfl _ _ 29 rfl P.length 1 (pgsV L P) [plV ⟨gp, 0, cp⟩ p] _ _ rfl rfl HROW.out HSRC.out ?_ ?_)
        all_goals first | omega | skip
        intro v2 W' hrow hgrow hblk
        obtain ⟨⟨c1, f1⟩, hrest⟩ := HPUSH.out W' v2 hrow hgrow hblk
        have HRST := Lib.hid hrest
        obtain ⟨A9, c9, rfl, _⟩ := hrow.form
        have HPL2 : Hid ((P ++ [p]).length = i + 1) := Lib.hid (by rw [List.length_append, HPL.out]; rfl)
        clear hrow hgrow hblk hrest
        go_wp2_with fail
        go_roundw
        case rel => exact ⟨i + 1, P ++ [p], some q2, _, _, HLT.out, by go_num, HPL2.out, HRST.out.1, HRST.out.2.1, HOK2.out, HRST.out.2.2.2, (fun e => by cases e), HRST.out.2.2.1, HNXE.out⟩
        case measure => have := HLT.out; simp [intOf]; omega
    · obtain rfl : i = n := by omega
      rw [Nat.sub_self] at hcont
      have HCONT := Lib.hid hcont
      have HEND := Lib.hid (end_u (HGL.out.only hOw HGE.out) HGE.out hRd)
      have HS := Lib.hid (And.intro hSt (And.intro hOwn hOk))
      have HOW := Lib.hid hOw
      have hgO : ∀ k, Owns w.heap.size v L k → k ≠ g := fun k hk => by have := hOwn k hk; omega
      have HGO := Lib.hid hgO
      clear hcont hSt hOwn hOk hRd hst hOw hPl hgO hlt
      go_wp2_with fail
      refine (HEND.out).mono ?_
      rintro e w2 ⟨x, rfl, hx, hO2⟩
      by_cases hse : st = some bs.length
      · obtain rfl : x = 0 := by
          rw [decide_eq_true hse] at hx
          simpa using hx
        have HFIN : Hid (LoadPost w g most (contP most bs (pagesS most bs i [] st1)) (.returned (.tuple #[.pointer (some ⟨w.heap.size, 0, none⟩), .nilIface])) w2) := Lib.hid ⟨HOW.out.trans hO2, .inr ⟨P, w.heap.size, v, L, by rw [HCONT.out]; unfold pagesS contP; simp [hse], rfl, HS.out.1.touch hO2.touch (fun k hk => HGO.out k hk), HS.out.2.2, HS.out.2.1⟩⟩
        clear hO2 hx hse
        go_wp2_with fail
        refine bodyPost_ret (v := .tuple #[.pointer (some ⟨w.heap.size, 0, none⟩), .nilIface]) (by simp [results, Tryz.results33, go_sem]) rfl ?_
        exact HFIN.out
      · have hx1 : (x == 0) = false := by rw [hx]; simpa using hse
        have hx2 : ¬ x = 0 := by simpa using hx1
        have HNO : Hid (contP most bs (pagesS most bs i [] st1) = none) := Lib.hid (by rw [HCONT.out]; unfold pagesS contP; simp [hse])
        have HO2 := Lib.hid hO2
        clear hO2 hx hse
        go_wp2_with fail
        refine (new_num 6 (by decide) _).mono ?_
        rintro e w3 ⟨rfl, rfl⟩
        go_wp2_with fail
        refine bodyPost_ret (v := .tuple #[.pointer none, .iface 85 (.agg #[.int .i64 6])]) (by simp [results, Tryz.results33, go_sem]) rfl ?_
        exact ⟨HOW.out.trans HO2.out, .inl ⟨HNO.out, _, rfl, [.num 6], ⟨rfl, rfl⟩, by simp, by intro x hx; simp at hx; omega, rfl, by simp⟩⟩
end Go.Proofs.YtkkembbeejlomaaGreatDoor

namespace Go.Proofs.YtkkembbeejlomaaGreatDoor
open Go.RowKit Go.Shelf Go.Sort Go.Lib

set_option maxRecDepth 100000 in
set_option maxHeartbeats 4000000 in
theorem Load_any {w : World} {x : Value} {bs : List UInt8} {most : Nat} (h : BIs w x bs) (hl : bs.length ≤ 1073741824) (hm : 2 ≤ most ∧ most ≤ 64) (hG : Glob w) :
    Calls Tryz.prog 12 #[x, .int .i64 most] w fun e w' => Below w.heap.size w w' ∧ ((loadP most bs = none ∧ e = .returned (.tuple #[.pointer none, .int .i64 6])) ∨ ∃ P s, loadP most bs = some P ∧ e = .returned (.tuple #[.pointer (some ⟨s, 0, none⟩), .int .i64 0]) ∧ Sr w w' s most P ∧ RowsOk P) := by
  have HOF := Lib.hid (of_any h hl)
  obtain ⟨A0, c0, rfl, _, _, _⟩ := h
  have HG := Lib.hid hG
  have HGL := Lib.hid hG.lt
  have HM := Lib.hid hm
  clear hG hm
  go_enter Tryz.func12, Tryz.ntmps12
  go_wp2_with fail
  refine (HOF.out).mono ?_
  rintro e w1 ⟨g, A, cap, rfl, hg, hR, hb1⟩
  have HB1 := Lib.hid hb1
  have HGT := Lib.hid hg
  have HGE : Hid (g ≠ 0) := Lib.hid (by have := HGL.out; omega)
  have HLD := Lib.hid (load_any HM.out (HG.out.below hb1) HGE.out hR)
  clear hR hb1 HOF hg
  go_wp2_with fail
  refine (HLD.out).mono ?_
  rintro e w2 ⟨hO2, hcase⟩
  have hb2 : Below w.heap.size w w2 := ⟨hO2.os.trans HB1.out.os, hO2.tape.trans HB1.out.tape, hO2.output.trans HB1.out.output, Nat.le_trans HB1.out.size hO2.size, fun k hk => (hO2.block k (Nat.lt_of_lt_of_le hk HB1.out.size) (by have := HGT.out; omega)).trans (HB1.out.block k hk)⟩
  have HB2 := Lib.hid hb2
  rcases hcase with ⟨hno, ev, rfl, c, h1, h2, h3, h4, h5⟩ | ⟨P, s, v, L, hP, rfl, hSt, hOk, hOwn⟩
  · have HC := Lib.hid (code_any (HG.out.below hb2) h1 h3 (by omega) (Below.refl _ _))
    rw [h4] at HC
    obtain ⟨t2, u2, rfl⟩ := h1.form2 h2
    have HNO := Lib.hid hno
    clear hO2 hb2 h1 h2 h3 h4 h5 hno HLD
    go_wp2_with fail
    refine (HC.out).mono ?_
    rintro e w3 ⟨rfl, hb3⟩
    have HB3 := Lib.hid (HB2.out.trans (hb3.mono HB2.out.size))
    clear hb3
    go_wp2_with fail
    refine bodyPost_ret (v := .tuple #[.pointer none, .int .i64 6]) (by simp [results, Tryz.results12, go_sem]) rfl ?_
    exact ⟨HB3.out, .inl ⟨HNO.out, rfl⟩⟩
  · have HC := Lib.hid (code_any (c := []) (v := .nilIface) (HG.out.below hb2) rfl (fun e h => by cases h) (by simp) (Below.refl _ _))
    have HF : Hid (Sr w w2 s most P ∧ RowsOk P ∧ loadP most bs = some P) := Lib.hid ⟨⟨⟨v, L, hSt, fun k hk => Nat.le_trans HB1.out.size (hOwn k hk)⟩, hb2, HG.out, hOk.fine HM.out⟩, hOk.rows, hP⟩
    clear hO2 hb2 hSt hOk hOwn hP HLD
    go_wp2_with fail
    refine (HC.out).mono ?_
    rintro e w3 ⟨rfl, hb3⟩
    have HB3 := Lib.hid (HB2.out.trans (hb3.mono HB2.out.size))
    have HS3 := Lib.hid (HF.out.1.keep hb3)
    clear hb3
    go_wp2_with fail
    refine bodyPost_ret (v := .tuple #[.pointer (some ⟨s, 0, none⟩), .int .i64 0]) (by simp [results, Tryz.results12, go_sem, codeOf]) rfl ?_
    exact ⟨HB3.out, .inr ⟨P, s, HF.out.2.2, rfl, HS3.out, HF.out.2.1⟩⟩
set_option maxRecDepth 100000 in
set_option maxHeartbeats 4000000 in
theorem empty_not {w : World} {most : Int} (hm : most < 2 ∨ 64 < most) :
    Calls Tryz.prog 14 #[.int .i64 most] w fun e w' => ∃ ev, e = .returned (.tuple #[.pointer none, ev]) ∧ ErrIs w' [.nam ⟨#[109, 111, 115, 116]⟩, .num 2] ev ∧ Below w.heap.size w w' := by
  have HT : ∀ W, Calls Tryz.prog 41 #[.int .i64 2] W fun e w' => e = .returned (.iface 85 (.agg #[.int .i64 2])) ∧ W = w' := fun W => new_num 2 (by decide) W
  have HH := Lib.hid HT
  clear HT
  by_cases h1 : most < 2
  · clear hm
    go_enter Tryz.func14, Tryz.ntmps14
    go_wp2_with fail
    refine (HH.out _).mono ?_
    rintro e w' ⟨rfl, rfl⟩
    go_wp2_with fail
    refine (in_any (c := [.num 2]) ⟨#[109, 111, 115, 116]⟩ ⟨rfl, rfl⟩).mono ?_
    rintro e w2 ⟨ev, rfl, hev, hb⟩
    obtain ⟨t2, u2, rfl⟩ := hev.form2 (by simp [onto])
    have HF := Lib.hid (And.intro hev hb)
    clear hev hb
    go_wp2_with fail
    refine bodyPost_ret (v := .tuple #[.pointer none, .iface t2 u2]) (by simp [results, Tryz.results14, go_sem]) rfl ?_
    exact ⟨_, rfl, HF.out.1, HF.out.2⟩
  · have h2 : 64 < most := by omega
    clear hm
    go_enter Tryz.func14, Tryz.ntmps14
    go_wp2_with fail
    refine (HH.out _).mono ?_
    rintro e w' ⟨rfl, rfl⟩
    go_wp2_with fail
    refine (in_any (c := [.num 2]) ⟨#[109, 111, 115, 116]⟩ ⟨rfl, rfl⟩).mono ?_
    rintro e w2 ⟨ev, rfl, hev, hb⟩
    obtain ⟨t2, u2, rfl⟩ := hev.form2 (by simp [onto])
    have HF := Lib.hid (And.intro hev hb)
    clear hev hb
    go_wp2_with fail
    refine bodyPost_ret (v := .tuple #[.pointer none, .iface t2 u2]) (by simp [results, Tryz.results14, go_sem]) rfl ?_
    exact ⟨_, rfl, HF.out.1, HF.out.2⟩
set_option maxRecDepth 100000 in
set_option maxHeartbeats 4000000 in
theorem Load_not {w : World} {x : Value} {bs : List UInt8} {most : Int} (h : BIs w x bs) (hl : bs.length ≤ 1073741824) (hm : most < 2 ∨ 64 < most) (hG : Glob w) :
    Calls Tryz.prog 12 #[x, .int .i64 most] w fun e w' => e = .returned (.tuple #[.pointer none, .int .i64 2]) ∧ Below w.heap.size w w' := by
  have HOF := Lib.hid (of_any h hl)
  obtain ⟨A0, c0, rfl, _, _, _⟩ := h
  have HG := Lib.hid hG
  have HM := Lib.hid hm
  clear hG hm
  have HLD : Hid (∀ W g, Below w.heap.size w W → Calls Tryz.prog 33 #[.pointer (some ⟨g, 0, none⟩), .int .i64 most] W fun e w' => ∃ ev, e = .returned (.tuple #[.pointer none, ev]) ∧ ErrIs w' [.nam ⟨#[109, 111, 115, 116]⟩, .num 2] ev ∧ Below W.heap.size W w') := Lib.hid (fun W g hW => by
    have HE := Lib.hid (empty_not (w := W) HM.out)
    clear HOF hW HG
    go_enter Tryz.func33, Tryz.ntmps33
    go_wp2_with fail
    refine (HE.out).mono ?_
    rintro e w2 ⟨ev, rfl, hev, hb⟩
    obtain ⟨t2, u2, rfl⟩ := hev.form2 (by simp)
    have HF := Lib.hid (And.intro hev hb)
    clear hev hb
    go_wp2_with fail
    refine bodyPost_ret (v := .tuple #[.pointer none, .iface t2 u2]) (by simp [results, Tryz.results33, go_sem]) rfl ?_
    exact ⟨_, rfl, HF.out.1, HF.out.2⟩)
  go_enter Tryz.func12, Tryz.ntmps12
  go_wp2_with fail
  refine (HOF.out).mono ?_
  rintro e w1 ⟨g, A, cap, rfl, hg, hR, hb1⟩
  have HB1 := Lib.hid hb1
  clear hR hg hb1
  go_wp2_with fail
  refine (HLD.out _ g HB1.out).mono ?_
  rintro e w2 ⟨ev, rfl, hev, hb2⟩
  have HC := Lib.hid (code_any ((HG.out.below HB1.out).below hb2) hev (fun e h => by simp at h; omega) (by simp) (Below.refl _ _))
  rw [show codeOf [Lk.nam ⟨#[109, 111, 115, 116]⟩, Lk.num 2] = 2 from rfl] at HC
  obtain ⟨t2, u2, rfl⟩ := hev.form2 (by simp)
  have HB2 := Lib.hid (HB1.out.trans (hb2.mono HB1.out.size))
  clear hev hb2
  go_wp2_with fail
  refine (HC.out).mono ?_
  rintro e w3 ⟨rfl, hb3⟩
  have HB3 := Lib.hid (HB2.out.trans (hb3.mono HB2.out.size))
  clear hb3
  go_wp2_with fail
  refine bodyPost_ret (v := .tuple #[.pointer none, .int .i64 2]) (by simp [results, Tryz.results12, go_sem]) rfl ?_
  exact ⟨rfl, HB3.out⟩
end Go.Proofs.YtkkembbeejlomaaGreatDoor

namespace Go.Proofs.YtkkembbeejlomaaGreatDoor
open Go.RowKit Go.Shelf Go.Sort Go.Lib

theorem holds_iff {most : Nat} {P : List (List Row)} : holdsP most P ↔ (∀ (j : Nat) (r : Row), P.flatten[j]? = some r → r.k.length ≤ 16 ∧ ∀ (i : Nat) (x : Row), j = i + 1 → P.flatten[i]? = some x → x.k < r.k) ∧ (∀ p ∈ P, p ≠ [] ∧ p.length ≤ most) ∧ P.flatten.length ≤ 256 := by
  unfold holdsP
  constructor
  · rintro ⟨h1, h2, h3, h4⟩
    refine ⟨fun j r hr => ⟨h1 r (List.mem_of_getElem? hr), fun i x hij hx => ?_⟩, h3, h4⟩
    have a := List.getElem?_eq_some_iff.1 hr
    have b := List.getElem?_eq_some_iff.1 hx
    have := List.pairwise_iff_getElem.1 h2 i j b.1 a.1 (by omega)
    rw [a.2, b.2] at this
    exact this
  · rintro ⟨h1, h3, h4⟩
    refine ⟨fun r hr => ?_, ?_, h3, h4⟩
    · obtain ⟨j, hj⟩ := List.getElem?_of_mem hr
      exact (h1 j r hj).1
    · generalize P.flatten = l at h1
      unfold Rise
      have key : ∀ (d i : Nat) (x y : Row), l[i]? = some x → l[i + 1 + d]? = some y → x.k < y.k := by
        intro d
        induction d with
        | zero => intro i x y hx hy; exact (h1 _ _ hy).2 i x rfl hx
        | succ d ih =>
          intro i x y hx hy
          have hlt : i + 1 + d < l.length := by have := (List.getElem?_eq_some_iff.1 hy).1; omega
          have hz : l[i + 1 + d]? = some l[i + 1 + d] := List.getElem?_eq_getElem hlt
          exact List.lt_trans (ih i x _ hx hz) ((h1 _ _ hy).2 (i + 1 + d) _ rfl hz)
      rw [List.pairwise_iff_getElem]
      intro i j hi hj hij
      exact key (j - (i + 1)) i _ _ (List.getElem?_eq_getElem hi) (by rw [show i + 1 + (j - (i + 1)) = j by omega]; exact List.getElem?_eq_getElem hj)
set_option maxRecDepth 100000 in
set_option maxHeartbeats 8000000 in
theorem Holds_any {w : World} {r most : Nat} {v : Value} {us : List Value} {P : List (List Row)} (h : RAt w r most v us P) (hl : P.length ≤ 1000) (hf : P.flatten.length ≤ 100000) (hpl : ∀ p ∈ P, p.length ≤ 100000) (hm : most ≤ 64) :
    Calls Tryz.prog 10 #[.pointer (some ⟨r, 0, none⟩)] w fun e w' => e = .returned (.bool (decide (holdsP most P))) ∧ Below w.heap.size w w' := by
  have HRW := Lib.hid (rrows_any h hl hf)
  have H := Lib.hid h
  obtain ⟨F, hF⟩ : ∃ F, P.flatten = F := ⟨_, rfl⟩
  have HFE := Lib.hid hF
  rw [hF] at HRW hf
  have hfI : (F.length : Int) ≤ 100000 := by omega
  have HPL := Lib.hid hpl
  have HIF : Hid (holdsP most P ↔ ((∀ (j : Nat) (r : Row), F[j]? = some r → r.k.length ≤ 16 ∧ ∀ (i : Nat) (x : Row), j = i + 1 → F[i]? = some x → x.k < r.k) ∧ (∀ p ∈ P, p ≠ [] ∧ p.length ≤ most) ∧ F.length ≤ 256)) := Lib.hid (by
    have := holds_iff (most := most) (P := P)
    rw [hF] at this
    exact this)
  clear h hF hpl
  go_enter Tryz.func10, Tryz.ntmps10
  go_wp2_with fail
  refine (HRW.out).mono ?_
  rintro e w1 ⟨v1, rfl, hr1, hb1⟩
  obtain ⟨A1, c1, rfl, hc1, hc2, _, _, hcell⟩ := hr1.1.form
  unfold maxLen at hc2
  have HCE := Lib.hid hcell
  have HB1 := Lib.hid hb1
  clear hr1 hb1 hcell HRW
  go_wp2_with fail
  go_loopw [12] (fun iv wr => ∃ i : Nat, i ≤ F.length ∧ iv = .int .i64 i ∧ (∀ (j : Nat) (r : Row), j < i → F[j]? = some r → r.k.length ≤ 16 ∧ ∀ (i : Nat) (x : Row), j = i + 1 → F[i]? = some x → x.k < r.k) ∧ Below w1.heap.size w1 wr) (fun iv _ => F.length - (intOf iv).toNat)
  case atStart => exact ⟨0, Nat.zero_le _, rfl, fun j r hj => by omega, Below.refl _ _⟩
  case round =>
    obtain ⟨i, hi, rfl, hall, hbw⟩ := hrel
    by_cases hlt : i < F.length
    · obtain ⟨x, hx⟩ : ∃ x, F[i]? = some x := ⟨_, List.getElem?_eq_getElem hlt⟩
      obtain ⟨q1, q2⟩ := pgC_at hx
      obtain ⟨g, rfl, k1⟩ := HCE.out _ _ q1
      obtain ⟨_, e1, k2⟩ := HCE.out _ _ q2
      injection e1 with e1
      injection e1 with e1
      subst e1
      replace k1 := (hbw.cell (World.block_lt_of_cell? _ _ k1)).trans k1
      replace k2 := (hbw.cell (World.block_lt_of_cell? _ _ k2)).trans k2
      unfold strV at k1
      have hiI : (i : Int) < (F.length : Int) := by omega
      have hb2 := hbw.trans ((below_new (w := wr) (.cells #[.string ⟨x.k.toArray⟩, .int .i64 x.n] 42)).mono hbw.size)
      have HB2 := Lib.hid hb2
      have HALL := Lib.hid hall
      have HX := Lib.hid hx
      have HLT := Lib.hid hlt
      by_cases h16 : 16 < x.k.length
      · have hd : decide ((16 : Int) < (x.k.length : Int)) = true := by simp; omega
        have HNO : Hid (decide (holdsP most P) = false) := Lib.hid (by
          simp only [decide_eq_false_iff_not]
          intro hh
          obtain ⟨h1, _⟩ := HIF.out.1 hh
          have := (h1 i x hx).1
          omega)
        clear hall hx hlt hbw hb2 q1 q2
        go_wp2_with fail
        go_quiet (fail)
        go_wp2_with fail
        go_ret
        exact ⟨by rw [HNO.out]; rfl, HB1.out.trans ((below_drewN HB2.out _).mono HB1.out.size)⟩
      · have hd : decide ((16 : Int) < (x.k.length : Int)) = false := by simp; omega
        cases i with
        | zero =>
          have HNEW : Hid (∀ (j : Nat) (r : Row), j < 1 → F[j]? = some r → r.k.length ≤ 16 ∧ ∀ (i : Nat) (x : Row), j = i + 1 → F[i]? = some x → x.k < r.k) := Lib.hid (fun j r hj hr => by
            obtain rfl : j = 0 := by omega
            obtain rfl := Option.some.inj (HX.out.symm.trans hr)
            exact ⟨by omega, fun i x e => by omega⟩)
          clear hall hx hlt hbw hb2 q1 q2
          go_wp2_with fail
          go_quiet (fail)
          go_wp2_with fail
          go_roundw
          case rel => exact ⟨1, by have := HLT.out; omega, rfl, HNEW.out, below_drewN HB2.out _⟩
          case measure => have := HLT.out; simp [intOf]; omega
        | succ i0 =>
          obtain ⟨y, hy⟩ : ∃ y, F[i0]? = some y := ⟨_, List.getElem?_eq_getElem (by omega)⟩
          obtain ⟨p1, _⟩ := pgC_at hy
          obtain ⟨_, e1, k3⟩ := HCE.out _ _ p1
          injection e1 with e1
          injection e1 with e1
          subst e1
          replace k3 := (hbw.cell (World.block_lt_of_cell? _ _ k3)).trans k3
          unfold strV at k3
          have k4 : (wr.alloc (.cells #[.string ⟨x.k.toArray⟩, .int .i64 x.n] 42)).cell? ⟨g, i0 * 2, none⟩ = some (.string ⟨y.k.toArray⟩) := ((below_new (w := wr) (.cells #[.string ⟨x.k.toArray⟩, .int .i64 x.n] 42)).cell (World.block_lt_of_cell? _ _ k3)).trans k3
          have HY := Lib.hid hy
          have d0 : decide ((0 : Int) < (i0 : Int) + 1) = true := decide_eq_true (by omega)
          have dw3 : IntKind.i64.wrap (i0 : Int) = (i0 : Int) := IntWalk.i64_in _ (by omega)
          have dw : IntKind.i64.wrap ((i0 : Int) + 1 - 1) = (i0 : Int) := by rw [IntWalk.i64_in _ (by omega)]; omega
          have di : (i0 : Int) < (F.length : Int) := by omega
          by_cases hky : y.k < x.k
          · have b1 : Op.bytesLess x.k y.k = false := by
              rw [bytesLess_eq]; simp only [decide_eq_false_iff_not]; exact fun e => List.lt_irrefl _ (k_trans e hky)
            have b2 : (x.k == y.k) = false := by
              rw [beq_eq_false_iff_ne]; intro e; rw [e] at hky; exact List.lt_irrefl _ hky
            have b3 : Op.bytesLess y.k x.k = true := by rw [bytesLess_eq]; simpa using hky
            have HNEW : Hid (∀ (j : Nat) (r : Row), j < i0 + 1 + 1 → F[j]? = some r → r.k.length ≤ 16 ∧ ∀ (i : Nat) (x : Row), j = i + 1 → F[i]? = some x → x.k < r.k) := Lib.hid (fun j r hj hr => by
              by_cases hji : j = i0 + 1
              · subst hji
                obtain rfl := Option.some.inj (HX.out.symm.trans hr)
                refine ⟨by omega, fun i z e hz => ?_⟩
                obtain rfl : i = i0 := by omega
                obtain rfl := Option.some.inj (HY.out.symm.trans hz)
                exact hky
              · exact HALL.out j r (by omega) hr)
            clear hall hx hlt hbw hb2 q1 q2 hy p1 hky
            go_wp2_with fail
            go_quiet (fail)
            go_wp2_with fail
            go_roundw
            case rel => exact ⟨i0 + 1 + 1, by have := HLT.out; omega, by go_num, HNEW.out, below_drewN HB2.out _⟩
            case measure => have := HLT.out; simp [intOf]; omega
          · have b4 : (Op.bytesLess x.k y.k || x.k == y.k) = true := by
              rw [bytesLess_eq]
              rcases k_tri x.k y.k with h | h | h
              · simp [h]
              · simp [h]
              · exact absurd h hky
            have b3 : Op.bytesLess y.k x.k = false := by rw [bytesLess_eq]; simpa using hky
            have HNO : Hid (decide (holdsP most P) = false) := Lib.hid (by
              simp only [decide_eq_false_iff_not]
              intro hh
              obtain ⟨h1, _⟩ := HIF.out.1 hh
              exact hky ((h1 (i0 + 1) x hx).2 i0 y rfl hy))
            clear hall hx hlt hbw hb2 q1 q2 hy p1 hky
            go_wp2_with fail
            go_quiet (fail)
            go_wp2_with fail
            go_ret
            exact ⟨by rw [HNO.out]; rfl, HB1.out.trans ((below_drewN HB2.out _).mono HB1.out.size)⟩
    · obtain rfl : i = F.length := by omega
      have h1 : ∀ (j : Nat) (r : Row), F[j]? = some r → r.k.length ≤ 16 ∧ ∀ (i : Nat) (x : Row), j = i + 1 → F[i]? = some x → x.k < r.k := fun j r hr => hall j r (List.getElem?_eq_some_iff.1 hr).1 hr
      have H1 := Lib.hid h1
      have hbwW := HB1.out.trans (hbw.mono HB1.out.size)
      have HBW := Lib.hid hbwW
      have hR := H.out.below hbwW
      obtain ⟨A2, c2, hv, hd1, hd2, _, _, hcell2⟩ := hR.row.form
      have ks : wr.cell? ⟨r, 1, none⟩ = some v := cell_of hR.head 1
      have km : wr.cell? ⟨r, 0, none⟩ = some (.int .i64 most) := cell_of hR.head 0
      rw [hv] at ks
      unfold maxLen at hd2
      have HCE2 := Lib.hid hcell2
      have HR := Lib.hid hR
      have hlI : (P.length : Int) ≤ 1000 := by omega
      clear hall hbw h1 hbwW hR hv hcell2 hlt
      go_wp2_with fail
      go_loopw [42] (fun iv wx => ∃ i : Nat, i ≤ P.length ∧ iv = .int .i64 i ∧ (∀ (j : Nat) (p : List Row), j < i → P[j]? = some p → p ≠ [] ∧ p.length ≤ most) ∧ wr = wx) (fun iv _ => P.length - (intOf iv).toNat)
      case atStart => exact ⟨0, Nat.zero_le _, rfl, fun j r hj => by omega, rfl⟩
      case round =>
        obtain ⟨i, hi, rfl, hall, rfl⟩ := hrel
        by_cases hlt : i < P.length
        · obtain ⟨p, hp⟩ : ∃ p, P[i]? = some p := ⟨_, List.getElem?_eq_getElem hlt⟩
          obtain ⟨u, hu, hsl⟩ := HR.out.each i p hp
          obtain ⟨g, rfl, k1⟩ := HCE2.out i u hu
          obtain ⟨Au, cu, rfl, hcu1, hcu2⟩ := hsl.form
          have hpb := HPL.out p (List.mem_of_getElem? hp)
          have hiI : (i : Int) < (P.length : Int) := by omega
          have HP := Lib.hid hp
          have HALL := Lib.hid hall
          have HLT := Lib.hid hlt
          obtain ⟨np, hnp⟩ : ∃ np, p.length = np := ⟨_, rfl⟩
          rw [hnp] at k1 hcu1 hpb
          have HNP := Lib.hid hnp
          clear hp hall hlt hsl hu hnp
          have hnpI : (np : Int) ≤ 100000 := by omega
          by_cases h0 : np = 0
          · have HNO : Hid (decide (holdsP most P) = false) := Lib.hid (by
              simp only [decide_eq_false_iff_not]
              intro hh
              exact ((HIF.out.1 hh).2.1 p (List.mem_of_getElem? HP.out)).1 (List.length_eq_zero_iff.1 (by rw [HNP.out]; exact h0)))
            subst h0
            go_wp2_with fail
            go_ret
            exact ⟨by rw [HNO.out]; rfl, HBW.out⟩
          · have h01 : ((np : Int) == 0) = false := by simpa using h0
            have h02 : ¬ (np : Int) = 0 := by omega
            by_cases hmx : most < np
            · have hmI : (most : Int) < (np : Int) := by omega
              have HNO : Hid (decide (holdsP most P) = false) := Lib.hid (by
                simp only [decide_eq_false_iff_not]
                intro hh
                have := ((HIF.out.1 hh).2.1 p (List.mem_of_getElem? HP.out)).2
                rw [HNP.out] at this
                omega)
              clear h0
              go_wp2_with fail
              go_ret
              exact ⟨by rw [HNO.out]; rfl, HBW.out⟩
            · have hmI : ¬ (most : Int) < (np : Int) := by omega
              have HNEW : Hid (∀ (j : Nat) (p : List Row), j < i + 1 → P[j]? = some p → p ≠ [] ∧ p.length ≤ most) := Lib.hid (fun j q hj hq => by
                by_cases hji : j = i
                · subst hji
                  obtain rfl := Option.some.inj (HP.out.symm.trans hq)
                  exact ⟨fun e => h0 (by rw [← HNP.out, e]; rfl), by rw [HNP.out]; omega⟩
                · exact HALL.out j q (by omega) hq)
              clear h0 hmx
              go_wp2_with fail
              go_roundw
              case rel => exact ⟨i + 1, HLT.out, by go_num, HNEW.out, trivial⟩
              case measure => have := HLT.out; simp [intOf]; omega
        · obtain rfl : i = P.length := by omega
          have h2 : ∀ p ∈ P, p ≠ [] ∧ p.length ≤ most := fun p hp => by
            obtain ⟨j, hj⟩ := List.getElem?_of_mem hp
            exact hall j p (List.getElem?_eq_some_iff.1 hj).1 hj
          have HYES : Hid (decide (holdsP most P) = decide ((F.length : Int) ≤ 256)) := Lib.hid (by
            by_cases hF : F.length ≤ 256
            · rw [decide_eq_true (HIF.out.2 ⟨H1.out, h2, hF⟩), decide_eq_true (by omega)]
            · rw [decide_eq_false (fun hh => hF (HIF.out.1 hh).2.2), decide_eq_false (by omega)])
          clear hall h2 hlt
          go_wp2_with fail
          go_ret
          exact ⟨by rw [HYES.out]; rfl, HBW.out⟩
end Go.Proofs.YtkkembbeejlomaaGreatDoor
