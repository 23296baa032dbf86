/- JournalOpens: a journal's records as copies that may be written; the law's same. JournalOpens: the law's same of a journal and the reference's that have the same. JournalOpens: the law's sum and framed: some bytes of one's own. JournalOpens: tape and reference side by side under the law's appends; what a journal reads, beside the reference's changes. JournalOpens: the law's walk. -/
import Derived.Test.YtnegnokielmgkaaGreatDoorZJopC
import Derived.Test.YtnegnokielmgkaaGreatDoorZJouO
import Derived.Test.YtnegnokielmgkaaGreatDoorZJlaG
import Derived.Test.YtnegnokielmgkaaGreatDoorZJouS
import Derived.Test.YtnegnokielmgkaaGreatDoorZJsaE
import Derived.Test.YtnegnokielmgkaaGreatDoorZLawE
import Derived.Test.YtnegnokielmgkaaGreatDoorZJlaA
set_option linter.unusedSimpArgs false
set_option linter.unusedVariables false
set_option linter.unnecessarySimpa false
namespace Go.Proofs.YtnegnokielmgkaaGreatDoor
open Go.RowKit

/-- Bytes of one's own, each by its own. -/
def OwnBs (w : World) (b0 : Nat) (xs : List Value) (ls : List (List UInt8)) : Prop := xs.length = ls.length ∧ ∀ (i : Nat) (x : Value) (l : List UInt8), xs[i]? = some x → ls[i]? = some l → OwnBy w b0 x l
theorem OwnBs.keep {w w' : World} {b0 : Nat} {xs : List Value} {ls : List (List UInt8)} (h : OwnBs w b0 xs ls) (hs : w.heap.size ≤ w'.heap.size) (hk : ∀ k, b0 ≤ k → k < w.heap.size → w'.heap[k]? = w.heap[k]?) : OwnBs w' b0 xs ls := ⟨h.1, fun i x l hx hl => by
  rcases h.2 i x l hx hl with h1 | ⟨g, cap, e, hc⟩
  · exact .inl h1
  · exact .inr ⟨g, cap, e, hc.keep hs (hk g hc.new hc.lt)⟩⟩
theorem OwnBs.below {w w' : World} {b0 : Nat} {xs : List Value} {ls : List (List UInt8)} (h : OwnBs w b0 xs ls) (hb : Below w.heap.size w w') : OwnBs w' b0 xs ls := h.keep hb.size fun k _ hk => hb.block k hk
theorem OwnBs.append {b0 : Nat} {w : World} {xs ys : List Value} {ls ms : List (List UInt8)} (h : OwnBs w b0 xs ls) (k : OwnBs w b0 ys ms) : OwnBs w b0 (xs ++ ys) (ls ++ ms) := by
  refine ⟨by simp [h.1, k.1], fun i x l hx hl => ?_⟩
  by_cases hi : i < xs.length
  · rw [List.getElem?_append_left hi] at hx
    rw [List.getElem?_append_left (by rw [← h.1]; exact hi)] at hl
    exact h.2 i x l hx hl
  · rw [List.getElem?_append_right (by omega)] at hx
    rw [List.getElem?_append_right (by rw [← h.1]; omega), ← h.1] at hl
    exact k.2 _ x l hx hl
theorem OwnBs.one {b0 : Nat} {w : World} {x : Value} {l : List UInt8} (h : OwnBy w b0 x l) : OwnBs w b0 [x] [l] := by
  refine ⟨rfl, fun i y m hy hm => ?_⟩
  cases i with
  | zero =>
    obtain rfl : x = y := by simpa using hy
    obtain rfl : l = m := by simpa using hm
    exact h
  | succ i => simp at hy
/-- What copies leaves: a row of one's own, and bytes of one's own behind it. -/
def CopO (w : World) (ls : List (List UInt8)) (e : Ending) (w' : World) : Prop := Below w.heap.size w w' ∧ ∃ xs, e = .returned (.slice (some ⟨w.heap.size, 0, none⟩) ls.length ls.length) ∧ xs.length = ls.length ∧ OwnV w' w.heap.size w.heap.size ls.length xs ∧ OwnBs w' (w.heap.size + 1) xs ls
set_option maxRecDepth 100000 in
set_option maxHeartbeats 2000000 in
theorem copies_own {w : World} {v : Value} {ls : List (List UInt8)} (h : PIs w v ls) (hl : ls.length ≤ 1000000) (hb : ∀ l ∈ ls, l.length ≤ 1073741824) : Calls Tryz.prog 73 #[v] w (CopO w ls) := by
  have HP := Lib.hid h
  have HBD := Lib.hid hb
  obtain ⟨A, cap, rfl, h1, h2, h3⟩ := h
  unfold maxLen at h2
  clear h3 hb
  have HL := Lib.hid hl
  have hlw : (ls.length : Int) ≤ 1000000 := by omega
  go_enter Tryz.func73, Tryz.ntmps73
  go_wp2_with (at_make; refine wpList_make_vals _ rfl _ _ rfl w.heap.size ls.length ls.length _ _ rfl rfl ?_ ?_ ?_ ?_ ?_ ?_)
  · first | rfl | simp
  · first | rfl | simp
  · exact Nat.le_refl _
  · omega
  · exact Nat.le_refl _
  intro w1 hown hb
  have HO1 : Hid (∃ xs : List Value, xs.length = ls.length ∧ OwnV w1 w.heap.size w.heap.size ls.length xs) := by
    refine ⟨List.replicate ls.length (.slice none 0 0), by simp, ?_⟩
    rcases hown with ⟨e, _⟩ | ⟨g, c, e, ho⟩
    · cases e
    · injection e with e e2 e3
      injection e with e
      injection e with e _ _
      subst e
      subst e3
      exact ho
  have HB1 := Lib.hid hb
  clear hown hb
  go_wp2_with fail
  go_loopw [11] (fun i wr => ∃ (j : Nat) (xs : List Value), j ≤ ls.length ∧ i = .int .i64 j ∧ OwnV wr w.heap.size w.heap.size ls.length xs ∧ xs.length = ls.length ∧ OwnBs wr (w.heap.size + 1) (xs.take j) (ls.take j) ∧ Below w.heap.size w wr) (fun i _ => ls.length - (intOf i).toNat)
  case atStart =>
    obtain ⟨xs, hx, ho⟩ := HO1.out
    exact ⟨0, xs, by omega, rfl, ho, hx, ⟨rfl, fun i x l hx => by simp at hx⟩, HB1.out⟩
  case round =>
    obtain ⟨j, xs, hj, rfl, hown, hxl, hbf, hb⟩ := hrel
    have HOW := Lib.hid hown
    have HBF := Lib.hid hbf
    have HB := Lib.hid hb
    have HXL := Lib.hid hxl
    clear hown hbf hb hxl
    by_cases hlt : j < ls.length
    · have hlj : ls[j]? = some ls[j] := List.getElem?_eq_getElem hlt
      have HLJ := Lib.hid hlj
      obtain ⟨A', c', e', _, _, h3'⟩ := HP.out.below HB.out
      injection e' with e' e2 e3
      subst e'
      obtain ⟨a, x, rfl, hab, hc, hbx⟩ := h3' j _ hlj
      have HMEM : Hid (ls[j].length ≤ 1073741824) := HBD.out _ (List.getElem_mem hlt)
      generalize ls[j] = l at *
      have HCL := Lib.hid (clone_any hbx HMEM.out)
      have HLT := Lib.hid hlt
      have l1 : (j : Int) < (ls.length : Int) := by omega
      clear hlj h3' e2 e3 hj hbx
      go_wp2_with fail
      refine (HCL.out).mono ?_
      rintro e w2 ⟨f, rfl, hof, hb2⟩
      have HOF := Lib.hid (hof.lower (b' := w.heap.size + 1) HOW.out.lt)
      have HB2 := Lib.hid (HB.out.trans (hb2.mono HB.out.size))
      have HOW2 := Lib.hid (HOW.out.keep hb2.size (hb2.block _ HOW.out.lt))
      have HBF2 := Lib.hid (HBF.out.below hb2)
      have hx2 := HOW2.out.there j HLT.out
      obtain ⟨z, hz⟩ := Option.isSome_iff_exists.1 hx2.1
      have hfr := hx2.2
      have hwsz : w.heap.size < wr.heap.size := HOW.out.lt
      obtain ⟨A9, c9, rfl, _, _, _⟩ := hof.bis
      clear hof hb2 hc hx2
      go_wp2_with fail
      go_roundw
      case rel =>
        refine ⟨j + 1, xs.set j (.slice A9 l.length c9), HLT.out, by go_num, HOW2.out.set (by rw [HXL.out]; exact HLT.out) _, by simp [HXL.out], ?_, HB2.out.setCell (Nat.le_refl _) _⟩
        have hjx : j < xs.length := by rw [HXL.out]; exact HLT.out
        have e1 : (xs.set j (.slice A9 l.length c9)).take (j + 1) = xs.take j ++ [.slice A9 l.length c9] := by
          rw [List.take_add_one, List.getElem?_set_self hjx, List.take_set_of_le (Nat.le_refl _)]; rfl
        have e2 : ls.take (j + 1) = ls.take j ++ [l] := by rw [List.take_add_one, HLJ.out]; rfl
        rw [e1, e2]
        exact ((HBF2.out).append (OwnBs.one HOF.out)).keep (by rw [setCell_szJ]; exact Nat.le_refl _) (fun k hk _ => Below.heap_setCell _ _ _ _ (fun e => by have e2 : k = w.heap.size := e; omega))
      case measure => simp [intOf]; omega
    · obtain rfl : j = ls.length := by omega
      go_wp2_with fail
      go_ret
      have e1 := HBF.out
      rw [List.take_length, ← HXL.out, List.take_length] at e1
      exact ⟨HB.out, xs, rfl, HXL.out, HOW.out, e1⟩
set_option maxRecDepth 100000 in
theorem jrecs_own {w : World} {j t : Nat} {T : Tp} {J : Js} {sv rv : Value} {xs : List Value} (h : JAt w j t T J sv rv xs) (hl : J.rs.length ≤ 1000000) (hb : ∀ l ∈ J.rs, l.length ≤ 1073741824) : Calls Tryz.prog 35 #[.pointer (some ⟨j, 0, none⟩)] w (CopO w J.rs) := by
  have HC := Lib.hid (copies_own (pis_of h.vis (h.recs.mono (G := fun _ => True) fun _ _ _ => trivial)) hl hb)
  obtain ⟨_, _, _, c3⟩ := h.cell
  clear h hl hb
  go_enter Tryz.func35, Tryz.ntmps35
  go_wp2_with fail
  refine (HC.out).mono ?_
  rintro e w1 ⟨hb, ys, rfl, ho, hv, hbf⟩
  have HO := Lib.hid ho
  have HB := Lib.hid hb
  have HF := Lib.hid hbf
  have HV := Lib.hid hv
  clear ho hb hbf hv
  go_wp2_with fail
  go_ret
  exact ⟨HB.out, ys, rfl, HO.out, HV.out, HF.out⟩
/-- Bytes that may be written. -/
def WrB (w : World) (b0 : Nat) (v : Value) (n : Nat) : Prop := ∃ A c, v = .slice A n c ∧ n ≤ c ∧ c ≤ maxLen ∧ ∀ i, i < n → ∃ g z, A = some ⟨g, 0, none⟩ ∧ b0 ≤ g ∧ w.cell? ⟨g, i, none⟩ = some (.int .u8 z) ∧ w.frozen? ⟨g, i, none⟩ = false
theorem OwnBy.wr {w : World} {b0 : Nat} {v : Value} {l : List UInt8} (h : OwnBy w b0 v l) : WrB w b0 v l.length := by
  rcases h with ⟨rfl, rfl⟩ | ⟨g, cap, rfl, hc⟩
  · exact ⟨none, 0, rfl, Nat.le_refl _, by unfold maxLen; omega, fun i hi => absurd hi (Nat.not_lt_zero _)⟩
  · exact ⟨_, cap, rfl, hc.le, hc.max, fun i hi => ⟨g, _, rfl, hc.new, hc.holds i _ (List.getElem?_eq_getElem hi), (hc.there i (Nat.lt_of_lt_of_le hi hc.le)).2⟩⟩
theorem WrB.set {w : World} {b0 : Nat} {v : Value} {n : Nat} (h : WrB w b0 v n) {g i : Nat} {u : Value} {z : Int} (hc : w.cell? ⟨g, i, none⟩ = some u) : WrB (w.setCell ⟨g, i, none⟩ (.int .u8 z)) b0 v n := by
  obtain ⟨A, c, e, h1, h2, h3⟩ := h
  refine ⟨A, c, e, h1, h2, fun k hk => ?_⟩
  obtain ⟨g', z', e', k1, k2, k3⟩ := h3 k hk
  by_cases hgi : g' = g ∧ k = i
  · obtain ⟨rfl, rfl⟩ := hgi
    exact ⟨_, z, e', k1, World.cell?_setCell_same _ _ _ hc, by rw [World.frozen?_setCell]; exact k3⟩
  · exact ⟨_, z', e', k1, (World.cell?_setCell_other _ _ _ _ (show (⟨g, i, none⟩ : Addr) ≠ ⟨g', k, none⟩ from fun e => hgi (by injection e with e1 e2; exact ⟨e1.symm, e2.symm⟩))).trans k2, by rw [World.frozen?_setCell]; exact k3⟩
end Go.Proofs.YtnegnokielmgkaaGreatDoor

namespace Go.Proofs.YtnegnokielmgkaaGreatDoor
open Go.RowKit

theorem jrecs_pis {w : World} {j t : Nat} {T : Tp} {J : Js} {sv rv : Value} {xs : List Value} (h : JAt w j t T J sv rv xs) (hl : J.rs.length ≤ 1000000) (hb : ∀ l ∈ J.rs, l.length ≤ 1000000) : Calls Tryz.prog 35 #[.pointer (some ⟨j, 0, none⟩)] w fun e w' => ∃ A c, e = .returned (.slice A J.rs.length c) ∧ PIs w' (.slice A J.rs.length c) J.rs ∧ Below w.heap.size w w' :=
  (jrecs h hl (fun l hm => by have := hb l hm; omega)).mono fun e w' ⟨hb, v, ys, e1, ho, hf⟩ => by
    obtain ⟨A, c, rfl, g1, g2, g3, g4⟩ := ho.vis
    have hlen : ys.length = J.rs.length := hf.1
    have hpi : PIs w' (.slice A ys.length c) J.rs := pis_of (ho.vis.mono (G := fun _ => True) fun _ _ _ => trivial) (hf.mono (G := fun _ => True) fun _ _ _ => trivial)
    rw [hlen] at e1 hpi
    exact ⟨A, c, e1, hpi, hb⟩
theorem jstate_str2 {w : World} {j t : Nat} {T : Tp} {J : Js} {sv rv : Value} {xs : List Value} (h : JAt w j t T J sv rv xs) (hl : J.st.length ≤ 1000000) : Calls Tryz.prog 36 #[.pointer (some ⟨j, 0, none⟩)] w fun e w' => ∃ A c, e = .returned (.slice A J.st.length c) ∧ (convert 32 9 (.slice A J.st.length c)).run Tryz.prog w' = .ok (.string ⟨J.st.toArray⟩) w' ∧ Below w.heap.size w w' :=
  (jstate h (by omega)).mono fun e w' ⟨v, e1, ho, hb⟩ => by
    have hc := bis_string ho.bis
    obtain ⟨A, c, rfl, _⟩ := ho.bis
    exact ⟨A, c, e1, hc, hb⟩
/-- The reference's journal, as it is compared. -/
structure RSee (w : World) (q r : Nat) (R : RTp) (sv rv : Value) (st : List UInt8) (rs : List (List UInt8)) : Prop where
  c0 : w.cell? ⟨q, 0, none⟩ = some (.pointer (some ⟨r, 0, none⟩))
  c3 : w.cell? ⟨q, 3, none⟩ = some sv
  c4 : w.cell? ⟨q, 4, none⟩ = some rv
  ok : RefOk w r R
  st : BIs w sv st
  rs : PIs w rv rs
theorem RSee.below {w w' : World} {q r : Nat} {R : RTp} {sv rv : Value} {st : List UInt8} {rs : List (List UInt8)} (h : RSee w q r R sv rv st rs) (hb : Below w.heap.size w w') : RSee w' q r R sv rv st rs :=
  ⟨(hb.cell (World.block_lt_of_cell? _ _ h.c0)).trans h.c0, (hb.cell (World.block_lt_of_cell? _ _ h.c3)).trans h.c3, (hb.cell (World.block_lt_of_cell? _ _ h.c4)).trans h.c4, h.ok.below hb, h.st.below hb, h.rs.below hb⟩
theorem RefOk.vec {w : World} {r : Nat} {R : RTp} (h : RefOk w r R) : ∃ B cap, R.v = .slice B R.L.length cap ∧ w.cell? ⟨r, 1, none⟩ = some (.slice B R.L.length cap) ∧ R.L.length ≤ cap ∧ cap ≤ maxLen := by
  obtain ⟨B, cap, ev, h1, h2, _⟩ := h.ref.row.form
  have hc := cell_of h.ref.head 1
  refine ⟨B, cap, ev, ?_, h1, h2⟩
  rw [hc, ← ev]
  rfl
set_option maxRecDepth 100000 in
set_option maxHeartbeats 4000000 in
theorem same5_any {w : World} {j t q r : Nat} {T : Tp} {J : Js} {R : RTp} {sj rj sv rv : Value} {xs : List Value} (hj : JAt w j t T J sj rj xs) (hr : RSee w q r R sv rv J.st J.rs) (hp : J.p.A = absR R.L) (hs : J.st.length ≤ 1000000) (hl : J.rs.length ≤ 1000000) (hb : ∀ l ∈ J.rs, l.length ≤ 1000000) :
    Calls Tryz.prog 27 #[.pointer (some ⟨j, 0, none⟩), .pointer (some ⟨q, 0, none⟩)] w fun e w' => e = .returned (.bool true) ∧ Below w.heap.size w w' := by
  have HJ := Lib.hid hj
  have HR := Lib.hid hr
  have HP := Lib.hid hp
  have HS := Lib.hid hs
  have HL := Lib.hid hl
  have HBL := Lib.hid hb
  obtain ⟨Bv, cap, ev, hc1, hcc1, hcc2⟩ := hr.ok.vec
  have EV := Lib.hid ev
  obtain ⟨As, cs, es, _⟩ := hr.st
  obtain ⟨Ar, cr, er, _⟩ := hr.rs
  subst es er
  have c0 := hr.c0
  have c3 := hr.c3
  have c4 := hr.c4
  have HU := Lib.hid (show rused R.L = sizeS J.p.A by rw [HP.out, absR_size])
  have HJS := Lib.hid (jstate_str2 (hj.below (below_drew (Below.refl _ _))) hs)
  have HCV := Lib.hid (fun (W : World) (hW : Below w.heap.size w W) => bis_string (hr.st.below hW))
  have HCE := Lib.hid (fun (W : World) (hW : Below w.heap.size w W) => And.intro (hr.below hW).c0 (And.intro (hr.below hW).c3 (hr.below hW).c4))
  unfold maxLen at hcc2
  clear hj hr hp hs hl hb ev
  go_enter Tryz.func27, Tryz.ntmps27
  go_wp2_with fail
  go_region_held (fun W => W.cell? ⟨q, 0, none⟩ = some (.pointer (some ⟨r, 0, none⟩)) ∧ W.cell? ⟨q, 3, none⟩ = some (.slice As J.st.length cs) ∧ W.cell? ⟨q, 4, none⟩ = some (.slice Ar J.rs.length cr) ∧ (convert 32 9 (.slice As J.st.length cs)).run Tryz.prog W = .ok (.string ⟨J.st.toArray⟩) W) (first | exact ⟨c0, c3, c4, HCV.out _ (Below.refl _ _)⟩ | exact ⟨c0, c3, c4, HCV.out _ (below_drew (Below.refl _ _))⟩ | assumption) (first | (go_at_call 36; refine (HJS.out).mono ?_; rintro e w2 ⟨A2, c2, rfl, hcv2, hb2⟩; have HB2 := Lib.hid ((below_drew (Below.refl _ w)).trans hb2); have hcond := And.intro (HCE.out _ HB2.out).1 (And.intro (HCE.out _ HB2.out).2.1 (And.intro (HCE.out _ HB2.out).2.2 (HCV.out _ HB2.out))); clear hb2) | (go_at_call 35; refine (jrecs_pis (HJ.out.below HB2.out) HL.out HBL.out).mono ?_; rintro e w3 ⟨A3, c3', rfl, hpi3, hb3⟩; have HPI3 := Lib.hid hpi3; have HB3 := Lib.hid (HB2.out.trans (hb3.mono HB2.out.size)); have hcond := And.intro (HCE.out _ HB3.out).1 (And.intro (HCE.out _ HB3.out).2.1 (And.intro (HCE.out _ HB3.out).2.2 (HCV.out _ HB3.out))); clear hb3 hpi3) | (go_at_call 37; refine (rsame_eq HPI3.out (HR.out.below HB3.out).rs).mono ?_; rintro e w4 ⟨rfl, hb4⟩; have HB4 := Lib.hid (HB3.out.trans (hb4.mono HB3.out.size)); have hcond := And.intro (HCE.out _ HB4.out).1 (And.intro (HCE.out _ HB4.out).2.1 (And.intro (HCE.out _ HB4.out).2.2 (HCV.out _ HB4.out))); clear hb4) | (go_at_call 39; refine (jlen (HJ.out.below HB4.out)).mono ?_; rintro e w5 ⟨rfl, rfl⟩) | (go_at_call 41; refine (jsize (HJ.out.below HB4.out)).mono ?_; rintro e w6 ⟨rfl, hb6⟩; have HB6 := Lib.hid (HB4.out.trans (hb6.mono HB4.out.size)); have hcond := And.intro (HCE.out _ HB6.out).1 (And.intro (HCE.out _ HB6.out).2.1 (And.intro (HCE.out _ HB6.out).2.2 (HCV.out _ HB6.out))); clear hb6) | (go_at_call 69; refine (rused_any (HR.out.below HB6.out).ok.ref (HR.out.ok.few) HR.out.ok.used).mono ?_; rintro e w7 ⟨rfl, hb7⟩; rw [HU.out]; have HB7 := Lib.hid (HB6.out.trans (hb7.mono HB6.out.size)); have hcond := And.intro (HCE.out _ HB7.out).1 (And.intro (HCE.out _ HB7.out).2.1 (And.intro (HCE.out _ HB7.out).2.2 (HCV.out _ HB7.out))); clear hb7))
  clear hcond HCE HCV HJS c0 c3 c4
  have HSG := Lib.hid (jsegs (HJ.out.below HB7.out))
  go_wp2_with fail
  refine (HSG.out).mono ?_
  rintro e w8 ⟨v8, rfl, hr8, ho8, hb8⟩
  have HB8 := Lib.hid (HB7.out.trans (hb8.mono HB7.out.size))
  have hN : numsOf J.p.A = R.L.map (·.n) := by rw [HP.out]; unfold numsOf absR; rw [List.map_map]; rfl
  have hNl : (numsOf J.p.A).length = R.L.length := by rw [hN, List.length_map]
  rw [hNl, hN] at hr8
  obtain ⟨A8, c8, rfl, hl1, hl2, _⟩ := hr8.form
  have HR8 := Lib.hid hr8
  have hc8 : w8.cell? ⟨r, 1, none⟩ = some (.slice Bv R.L.length cap) := (HB8.out.cell (World.block_lt_of_cell? _ _ hc1)).trans hc1
  have q0 := (HR.out.below HB8.out).c0
  unfold maxLen at hl2
  clear hr8 ho8 hb8 hN hNl hc1
  go_wp2_with fail
  go_loopw [75] (fun iv wr => ∃ k : Nat, k ≤ R.L.length ∧ iv = .int .i64 k ∧ Below w8.heap.size w8 wr) (fun iv _ => R.L.length - (intOf iv).toNat)
  case atStart => exact ⟨0, Nat.zero_le _, rfl, Below.refl _ _⟩
  case round =>
    obtain ⟨k, hk, rfl, hbw⟩ := hrel
    have HBW := Lib.hid hbw
    by_cases hlt : k < R.L.length
    · have hx : R.L[k]? = some R.L[k] := List.getElem?_eq_getElem hlt
      obtain ⟨g, rfl, hg, k0, k1, k2⟩ := (HR.out.ok.below (HB8.out.trans (hbw.mono HB8.out.size))).ref.seg3 EV.out hx
      have hbx := (HR.out.ok.ref.segs _ (List.getElem_mem hlt)).1
      have hnx : (R.L.map (·.n) |>.map (Value.int .i64))[k]? = some (.int .i64 R.L[k].n) := by rw [List.getElem?_map, List.getElem?_map, hx]; rfl
      generalize R.L[k] = x at *
      obtain ⟨Ax, cx, ex, _⟩ := hbx
      rw [ex] at k1
      obtain ⟨g8, u8, e8, hg8, hf8, hv8, hc8'⟩ := row_at (HR8.out.below hbw) hlt
      obtain rfl : u8 = .int .i64 x.n := Option.some.inj (hv8.symm.trans hnx)
      subst e8
      have hadd : (⟨g, 0, none⟩ : Addr).add (k * 3) = ⟨g, k * 3, none⟩ := add0 _ _
      have hadd8 : (⟨g8, 0, none⟩ : Addr).add k = ⟨g8, k, none⟩ := add0 _ _
      have hat := alloc_at wr (.cells #[.int .i64 x.n, .slice Ax x.b.length cx, .int .i64 (x.s : Int)] 108)
      have hb9 := below_new (w := wr) (.cells #[.int .i64 x.n, .slice Ax x.b.length cx, .int .i64 (x.s : Int)] 108)
      have s0 := cell_of hat 0
      have l8 : (wr.alloc (.cells #[.int .i64 x.n, .slice Ax x.b.length cx, .int .i64 (x.s : Int)] 108)).cell? ⟨g8, k, none⟩ = some (.int .i64 x.n) := (hb9.cell hg8).trans hc8'
      have HB9 := Lib.hid hb9
      have HLT := Lib.hid hlt
      have hi : (k : Int) < (R.L.length : Int) := by omega
      clear hx hbw ex hat hb9 hv8 hnx hf8
      go_wp2_with fail
      go_region_held (fun W => W.cell? ⟨g8, k, none⟩ = some (.int .i64 x.n) ∧ W.cell? ⟨wr.heap.size, 0, none⟩ = some (.int .i64 x.n)) (first | exact ⟨l8, s0⟩ | exact ⟨by go_keep, by go_keep⟩) (fail)
      go_wp2_with fail
      go_roundw
      case rel => exact ⟨k + 1, HLT.out, by go_num, by first | exact HBW.out.trans (HB9.out.mono HBW.out.size) | exact below_drew (HBW.out.trans (HB9.out.mono HBW.out.size))⟩
      case measure => have := HLT.out; simp [intOf]; omega
    · obtain rfl : k = R.L.length := by omega
      have HBX := Lib.hid (HB8.out.trans (hbw.mono HB8.out.size))
      have HRO := Lib.hid (jrecs_own (HJ.out.below HBX.out) HL.out (fun l hm => by have := HBL.out l hm; omega))
      have hL := HL.out
      clear hbw hk
      go_wp2_with fail
      refine (HRO.out).mono ?_
      rintro e w9 ⟨hb9, ys, rfl, hyl, hov, hobs⟩
      have HB9 := Lib.hid (HBX.out.trans (hb9.mono HBX.out.size))
      have HYL := Lib.hid hyl
      have HOV := Lib.hid hov
      have HWR : Hid (∀ (i : Nat) (y : Value) (l : List UInt8), ys[i]? = some y → J.rs[i]? = some l → WrB w9 (wr.heap.size + 1) y l.length) := Lib.hid (fun i y l h1 h2 => (hobs.2 i y l h1 h2).wr)
      have HNB : Hid (w.heap.size ≤ wr.heap.size) := Lib.hid HBX.out.size
      generalize hnb : wr.heap.size = nb at *
      clear hb9 hyl hov hobs hnb
      have hl : (J.rs.length : Int) ≤ 1000000 := by omega
      go_wp2_with fail
      go_loopw [91] (fun iv wx => ∃ k : Nat, k ≤ J.rs.length ∧ iv = .int .i64 k ∧ OwnV wx nb nb J.rs.length ys ∧ (∀ (i : Nat) (y : Value) (l : List UInt8), ys[i]? = some y → J.rs[i]? = some l → WrB wx (nb + 1) y l.length) ∧ Below w.heap.size w wx) (fun iv _ => J.rs.length - (intOf iv).toNat)
      case atStart => exact ⟨0, Nat.zero_le _, rfl, HOV.out, HWR.out, HB9.out⟩
      case round =>
        obtain ⟨k, hk, rfl, hov, hwr, hb⟩ := hrel
        have HOV2 := Lib.hid hov
        have HWR2 := Lib.hid hwr
        have HB2' := Lib.hid hb
        by_cases hlt : k < J.rs.length
        · have hy : ys[k]? = some (ys[k]'(by rw [HYL.out]; exact hlt)) := List.getElem?_eq_getElem _
          have hlk : J.rs[k]? = some J.rs[k] := List.getElem?_eq_getElem hlt
          have hcy := hov.holds k _ hy
          have hwy := hwr k _ _ hy hlk
          have HY := Lib.hid hy
          have HLK := Lib.hid hlk
          have hbl := HBL.out _ (List.getElem_mem hlt)
          generalize ys[k]'(by rw [HYL.out]; exact hlt) = y at *
          generalize J.rs[k] = l at *
          obtain ⟨Ay, cy, rfl, y1, y2, _⟩ := hwy
          have HLT := Lib.hid hlt
          have hi : (k : Int) < (J.rs.length : Int) := by omega
          have hadd : (⟨nb, 0, none⟩ : Addr).add k = ⟨nb, k, none⟩ := add0 _ _
          unfold maxLen at y2
          clear hy hlk hov hwr hb
          go_wp2_with fail
          go_loopw [97] (fun iv wx => ∃ i : Nat, i ≤ l.length ∧ iv = .int .i64 i ∧ OwnV wx nb nb J.rs.length ys ∧ (∀ (i : Nat) (y : Value) (l : List UInt8), ys[i]? = some y → J.rs[i]? = some l → WrB wx (nb + 1) y l.length) ∧ Below w.heap.size w wx) (fun iv _ => l.length - (intOf iv).toNat)
          case atStart => exact ⟨0, Nat.zero_le _, rfl, HOV2.out, HWR2.out, HB2'.out⟩
          case round =>
            obtain ⟨i, hil, rfl, hov, hwr, hb⟩ := hrel
            have HOV3 := Lib.hid hov
            have HWR3 := Lib.hid hwr
            have HB3' := Lib.hid hb
            by_cases hlt2 : i < l.length
            · obtain ⟨A', c', e', _, _, hw3⟩ := hwr k _ l HY.out HLK.out
              injection e' with e1 _ e3
              subst e1 e3
              obtain ⟨g, z, rfl, hg, hcz, hfz⟩ := hw3 i hlt2
              have HC := Lib.hid hcz
              have HG := Lib.hid hg
              have HLT2 := Lib.hid hlt2
              have hii : (i : Int) < (l.length : Int) := by omega
              have hadd2 : (⟨g, 0, none⟩ : Addr).add i = ⟨g, i, none⟩ := add0 _ _
              clear hov hwr hb hw3
              go_wp2_with fail
              go_roundw
              case rel =>
                refine ⟨i + 1, HLT2.out, by go_num, HOV3.out.keep (by rw [setCell_szJ]; exact Nat.le_refl _) (Below.heap_setCell _ _ _ _ (fun e => by have h1 : nb = g := e; have h2 := HG.out; omega)), fun i' y' l' h1 h2 => (HWR3.out i' y' l' h1 h2).set HC.out, HB3'.out.setCell (by have h2 := HG.out; have h3 := HNB.out; show _ ≤ g; omega) _⟩
              case measure => have := HLT2.out; simp [intOf]; omega
            · obtain rfl : i = l.length := by omega
              clear hov hwr hb
              go_wp2_with fail
              go_roundw
              case rel => exact ⟨k + 1, HLT.out, by go_num, HOV3.out, HWR3.out, HB3'.out⟩
              case measure => have := HLT.out; simp [intOf]; omega
        · obtain rfl : k = J.rs.length := by omega
          clear hov hwr hb
          go_wp2_with fail
          go_ret
          exact ⟨rfl, HB2'.out⟩
end Go.Proofs.YtnegnokielmgkaaGreatDoor

namespace Go.Proofs.YtnegnokielmgkaaGreatDoor
open Go.RowKit

set_option maxRecDepth 100000 in
set_option maxHeartbeats 2000000 in
theorem lsum_any {w : World} {v : Value} {l : List UInt8} (h : BIs w v l) (hl : l.length ≤ 1000000) : Calls Tryz.prog 56 #[v] w fun e w' => ∃ z : Int, e = .returned (.int .u32 z) ∧ w = w' := by
  have HB := Lib.hid h
  obtain ⟨A, cap, rfl, h1, h2, h3⟩ := h
  unfold maxLen at h2
  have H3 := Lib.hid h3
  clear h3
  have hl' : (l.length : Int) ≤ 1000000 := by omega
  go_enter Tryz.func56, Tryz.ntmps56
  go_wp2_with fail
  go_loopw [3, 9] (fun sv iv wr => ∃ (k : Nat) (z : Int), k ≤ l.length ∧ iv = .int .i64 k ∧ sv = .int .u32 z ∧ w = wr) (fun _ iv _ => l.length - (intOf iv).toNat)
  case atStart => exact ⟨0, _, Nat.zero_le _, rfl, rfl, rfl⟩
  case round =>
    obtain ⟨k, z, hk, rfl, rfl, rfl⟩ := hrel
    by_cases hlt : k < l.length
    · obtain ⟨a, rfl, ha, hc⟩ := H3.out k _ (List.getElem?_eq_getElem hlt)
      have HLT := Lib.hid hlt
      have hi : (k : Int) < (l.length : Int) := by omega
      generalize ((l[k].toNat : Nat) : Int) = c at hc
      clear hk
      go_wp2_with fail
      go_loopw [3, 6] (fun sv iv wr => ∃ (m : Nat) (z : Int), m ≤ 8 ∧ iv = .int .i64 m ∧ sv = .int .u32 z ∧ w = wr) (fun _ iv _ => 8 - (intOf iv).toNat)
      case atStart => exact ⟨0, _, Nat.zero_le _, rfl, rfl, rfl⟩
      case round =>
        obtain ⟨m, z2, hm, rfl, rfl, rfl⟩ := hrel
        by_cases hm8 : m < 8
        · have HM := Lib.hid hm8
          have him : (m : Int) < 8 := by omega
          cases hbit : (bits .and .u32 z2 1 == 1) with
          | true =>
            go_wp2_with fail
            go_roundw
            case rel => exact ⟨m + 1, _, HM.out, by go_num, rfl, trivial⟩
            case measure => have := HM.out; simp [intOf]; omega
          | false =>
            go_wp2_with fail
            go_roundw
            case rel => exact ⟨m + 1, _, HM.out, by go_num, rfl, trivial⟩
            case measure => have := HM.out; simp [intOf]; omega
        · obtain rfl : m = 8 := by omega
          go_wp2_with fail
          go_roundw
          case rel => exact ⟨k + 1, _, HLT.out, by go_num, rfl, trivial⟩
          case measure => have := HLT.out; simp [intOf]; omega
    · obtain rfl : k = l.length := by omega
      go_wp2_with fail
      go_ret
      exact ⟨⟨bits .xor .u32 IntKind.u32.max z, rfl⟩, by first | rfl | trivial⟩
theorem ownb_empty (w : World) : OwnBy (w.alloc (.cells #[] 5)) w.heap.size (.slice (some ⟨w.heap.size, 0, none⟩) 0 0) [] :=
  .inr ⟨w.heap.size, 0, rfl, Nat.le_refl _, by rw [asz]; exact Nat.lt_succ_self _, Nat.le_refl _, by unfold maxLen; omega, fun j b hj => by simp at hj, fun j hj => by omega⟩
theorem byte_is {y : Int} (h : 0 ≤ y ∧ y < 256) : ∃ b : UInt8, y = (b.toNat : Int) := by
  refine ⟨y.toNat.toUInt8, ?_⟩
  rw [u8_mod]
  omega
theorem word_bytes (w : World) (z : Int) : ∃ ms : List UInt8, ms.length = 4 ∧ Src Tryz.prog 1 32 (.slice (some ⟨w.heap.size, 0, none⟩) 4 4) ms.length (bc ms) (w.alloc (.cells #[.int .u8 (z / 16777216 % 256), .int .u8 (z / 65536 % 256), .int .u8 (z / 256 % 256), .int .u8 (z % 256)] 5)) := by
  obtain ⟨a, ha⟩ := byte_is (y := z / 16777216 % 256) (by omega)
  obtain ⟨b, hb⟩ := byte_is (y := z / 65536 % 256) (by omega)
  obtain ⟨c, hc⟩ := byte_is (y := z / 256 % 256) (by omega)
  obtain ⟨d, hd⟩ := byte_is (y := z % 256) (by omega)
  have := new_own w [a, b, c, d] (by simp)
  simp only [bc, List.map_cons, List.map_nil, ← ha, ← hb, ← hc, ← hd] at this
  exact ⟨[a, b, c, d], rfl, this.bis.src⟩
set_option maxRecDepth 100000 in
set_option maxHeartbeats 2000000 in
theorem framed_any {w : World} {v : Value} {l : List UInt8} (h : BIs w v l) (hl : l.length ≤ 60) : Calls Tryz.prog 21 #[v] w fun e w' => ∃ x l', e = .returned x ∧ OwnBy w' w.heap.size x l' ∧ l'.length ≤ 70 ∧ Below w.heap.size w w' := by
  have HB := Lib.hid h
  obtain ⟨A, cap, rfl, h1, h2, h3⟩ := h
  unfold maxLen at h2
  have HL := Lib.hid hl
  have HNB := Lib.hid (below_new (w := w) (.cells #[] 5))
  have HOE := Lib.hid (ownb_empty w)
  have HSE := Lib.hid ((HB.out.below HNB.out).src)
  have HB3 : Hid (Below w.heap.size w (w.alloc (.cells #[.int .u8 167, .int .u8 0, .int .u8 (l.length : Int)] 5))) := Lib.hid (below_new _)
  have HO3 : Hid (∃ f0 : List UInt8, f0.length = 3 ∧ OwnBy (w.alloc (.cells #[.int .u8 167, .int .u8 0, .int .u8 (l.length : Int)] 5)) w.heap.size (.slice (some ⟨w.heap.size, 0, none⟩) 3 3) f0) := by
    have := new_own w [167, 0, l.length.toUInt8] (by simp)
    have e1 : (((l.length.toUInt8).toNat : Nat) : Int) = (l.length : Int) := by rw [u8_mod]; omega
    simp only [bc, List.map_cons, List.map_nil, e1] at this
    exact Lib.hid ⟨_, rfl, this⟩
  obtain ⟨f0, hf3, hf0⟩ := HO3.out
  have HF0 := Lib.hid hf0
  have HF3 := Lib.hid hf3
  have HS3 := Lib.hid ((HB.out.below HB3.out).src)
  have w1' : IntKind.u8.wrap (l.length : Int) = (l.length : Int) := by rw [IntKind.wrap_u8']; omega
  clear HO3 hf0 hf3
  by_cases hne : l.length = 0
  · obtain rfl : l = [] := List.length_eq_zero_iff.1 hne
    clear h3 hne
    have l0 : ¬ (0 : Int) < ((([] : List UInt8).length : Nat) : Int) := by simp
    generalize hLL : ([] : List UInt8) = l at *
    generalize hN : l.length = N at *
    have HN := Lib.hid hN
    clear hN hLL
    go_enter Tryz.func21, Tryz.ntmps21
    go_wp2_with (at_builtin; refine wpList_append_by _ rfl _ _ 32 rfl w.heap.size f0 l _ _ rfl rfl HF0.out (by rw [HN.out]; exact HS3.out) ?_ HB3.out.size ?_)
    · have := HL.out; have := HF3.out; have := HN.out; omega
    intro v' w' hown hg
    have HO := Lib.hid hown
    have HW := Lib.hid (HB3.out.grown hg HB3.out.size HF0.out.rows)
    have HLL : Hid ((f0 ++ l).length ≤ 63) := Lib.hid (by rw [List.length_append]; have := HL.out; have := HF3.out; have := HN.out; omega)
    generalize f0 ++ l = f at *
    have HSM := Lib.hid (lsum_any hown.bis (by have := HLL.out; omega))
    obtain ⟨Af, cf, rfl, _⟩ := id hown.bis
    clear hown hg
    go_wp2_with fail
    refine (HSM.out).mono ?_
    rintro e w2 ⟨z9, rfl, rfl⟩
    obtain ⟨ms, hms, hsrc⟩ := word_bytes w' z9
    have HMS := Lib.hid hms
    have HSR := Lib.hid hsrc
    have HA2 := Lib.hid (below_new (w := w') (.cells #[.int .u8 (z9 / 16777216 % 256), .int .u8 (z9 / 65536 % 256), .int .u8 (z9 / 256 % 256), .int .u8 (z9 % 256)] 5))
    have HOB := Lib.hid (HO.out.below HA2.out)
    have HAB := Lib.hid (HW.out.trans (HA2.out.mono HW.out.size))
    clear hms hsrc
    go_wp2_with (at_builtin; refine wpList_append_by _ rfl _ _ 32 rfl w.heap.size f ms _ _ rfl rfl HOB.out HSR.out ?_ HAB.out.size ?_)
    · have := HLL.out; have := HMS.out; omega
    intro v' w2 hown hg
    have HO' := Lib.hid hown
    have HB' := Lib.hid (HAB.out.grown hg HAB.out.size HOB.out.rows)
    clear hown hg
    go_wp2_with fail
    go_ret
    exact ⟨_, f ++ ms, rfl, HO'.out, by rw [List.length_append]; have := HLL.out; have := HMS.out; omega, HB'.out⟩
  · obtain ⟨x, hx0⟩ : ∃ x, l[0]? = some x := ⟨_, List.getElem?_eq_getElem (by omega)⟩
    obtain ⟨a, rfl, ha, hc⟩ := h3 0 x hx0
    have hc' : w.cell? a = some (.int .u8 (x.toNat : Int)) := hc
    have l1 : (0 : Int) < ((l.length : Nat) : Int) := by omega
    have l2 : 0 < l.length := by omega
    generalize hN : l.length = N at *
    have HN := Lib.hid hN
    clear h3 hc hN hx0
    by_cases hx : 97 ≤ (x.toNat : Int)
    · by_cases hx2 : (x.toNat : Int) ≤ 122
      · generalize ((x.toNat : Nat) : Int) = z at *
        go_enter Tryz.func21, Tryz.ntmps21
        go_wp2_with (at_builtin; refine wpList_append_by _ rfl _ _ 32 rfl w.heap.size [] l _ _ rfl rfl HOE.out (by rw [HN.out]; exact HSE.out) ?_ HNB.out.size ?_)
        · have := HL.out; have := HN.out; show 0 + l.length ≤ _; omega
        intro v' w' hown hg
        have HO := Lib.hid hown
        have HW := Lib.hid (HNB.out.grown hg HNB.out.size HOE.out.rows)
        clear hown hg
        go_wp2_with fail
        go_ret
        exact ⟨_, l, rfl, HO.out, by have := HL.out; have := HN.out; omega, HW.out⟩
      · generalize ((x.toNat : Nat) : Int) = z at *
        go_enter Tryz.func21, Tryz.ntmps21
        go_wp2_with (at_builtin; refine wpList_append_by _ rfl _ _ 32 rfl w.heap.size f0 l _ _ rfl rfl HF0.out (by rw [HN.out]; exact HS3.out) ?_ HB3.out.size ?_)
        · have := HL.out; have := HF3.out; have := HN.out; omega
        intro v' w' hown hg
        have HO := Lib.hid hown
        have HW := Lib.hid (HB3.out.grown hg HB3.out.size HF0.out.rows)
        have HLL : Hid ((f0 ++ l).length ≤ 63) := Lib.hid (by rw [List.length_append]; have := HL.out; have := HF3.out; have := HN.out; omega)
        generalize f0 ++ l = f at *
        have HSM := Lib.hid (lsum_any hown.bis (by have := HLL.out; omega))
        obtain ⟨Af, cf, rfl, _⟩ := id hown.bis
        clear hown hg
        go_wp2_with fail
        refine (HSM.out).mono ?_
        rintro e w2 ⟨z9, rfl, rfl⟩
        obtain ⟨ms, hms, hsrc⟩ := word_bytes w' z9
        have HMS := Lib.hid hms
        have HSR := Lib.hid hsrc
        have HA2 := Lib.hid (below_new (w := w') (.cells #[.int .u8 (z9 / 16777216 % 256), .int .u8 (z9 / 65536 % 256), .int .u8 (z9 / 256 % 256), .int .u8 (z9 % 256)] 5))
        have HOB := Lib.hid (HO.out.below HA2.out)
        have HAB := Lib.hid (HW.out.trans (HA2.out.mono HW.out.size))
        clear hms hsrc
        go_wp2_with (at_builtin; refine wpList_append_by _ rfl _ _ 32 rfl w.heap.size f ms _ _ rfl rfl HOB.out HSR.out ?_ HAB.out.size ?_)
        · have := HLL.out; have := HMS.out; omega
        intro v' w2 hown hg
        have HO' := Lib.hid hown
        have HB' := Lib.hid (HAB.out.grown hg HAB.out.size HOB.out.rows)
        clear hown hg
        go_wp2_with fail
        go_ret
        exact ⟨_, f ++ ms, rfl, HO'.out, by rw [List.length_append]; have := HLL.out; have := HMS.out; omega, HB'.out⟩
    · generalize ((x.toNat : Nat) : Int) = z at *
      go_enter Tryz.func21, Tryz.ntmps21
      go_wp2_with (at_builtin; refine wpList_append_by _ rfl _ _ 32 rfl w.heap.size f0 l _ _ rfl rfl HF0.out (by rw [HN.out]; exact HS3.out) ?_ HB3.out.size ?_)
      · have := HL.out; have := HF3.out; have := HN.out; omega
      intro v' w' hown hg
      have HO := Lib.hid hown
      have HW := Lib.hid (HB3.out.grown hg HB3.out.size HF0.out.rows)
      have HLL : Hid ((f0 ++ l).length ≤ 63) := Lib.hid (by rw [List.length_append]; have := HL.out; have := HF3.out; have := HN.out; omega)
      generalize f0 ++ l = f at *
      have HSM := Lib.hid (lsum_any hown.bis (by have := HLL.out; omega))
      obtain ⟨Af, cf, rfl, _⟩ := id hown.bis
      clear hown hg
      go_wp2_with fail
      refine (HSM.out).mono ?_
      rintro e w2 ⟨z9, rfl, rfl⟩
      obtain ⟨ms, hms, hsrc⟩ := word_bytes w' z9
      have HMS := Lib.hid hms
      have HSR := Lib.hid hsrc
      have HA2 := Lib.hid (below_new (w := w') (.cells #[.int .u8 (z9 / 16777216 % 256), .int .u8 (z9 / 65536 % 256), .int .u8 (z9 / 256 % 256), .int .u8 (z9 % 256)] 5))
      have HOB := Lib.hid (HO.out.below HA2.out)
      have HAB := Lib.hid (HW.out.trans (HA2.out.mono HW.out.size))
      clear hms hsrc
      go_wp2_with (at_builtin; refine wpList_append_by _ rfl _ _ 32 rfl w.heap.size f ms _ _ rfl rfl HOB.out HSR.out ?_ HAB.out.size ?_)
      · have := HLL.out; have := HMS.out; omega
      intro v' w2 hown hg
      have HO' := Lib.hid hown
      have HB' := Lib.hid (HAB.out.grown hg HAB.out.size HOB.out.rows)
      clear hown hg
      go_wp2_with fail
      go_ret
      exact ⟨_, f ++ ms, rfl, HO'.out, by rw [List.length_append]; have := HLL.out; have := HMS.out; omega, HB'.out⟩
end Go.Proofs.YtnegnokielmgkaaGreatDoor

namespace Go.Proofs.YtnegnokielmgkaaGreatDoor
open Go.RowKit

theorem start_TRj {w0 w1 w2 : World} (hG : Glob w0) {t : Nat} (ht : w0.heap.size ≤ t) (hT : TapeAt w1 t (newT 20000)) (h1 : Below w0.heap.size w0 w1) (hN : (newT 20000).blocks t = [t]) (hR : RefAt w2 w1.heap.size (newR 20000)) (h2 : Below w1.heap.size w1 w2) : TR w0 w2 t w1.heap.size (newT 20000) (newR 20000) := by
  have hlt := hT.lt t (by rw [hN]; exact List.mem_singleton.2 rfl)
  refine ⟨hT.below h2, ⟨hR, fun x hx => (by cases hx), ?_, by show (0 : Nat) ≤ 64; omega, by show (0 : Nat) ≤ 1048576; omega, ⟨20000, rfl, by omega⟩, ⟨by show (-1 : Int) ≤ -1; omega, by show (-1 : Int) ≤ _; omega⟩, fun x hx => (by cases hx)⟩, ⟨rfl, .refl _, rfl, rfl⟩, hG, h1.trans (h2.mono h1.size), fun k hk => ?_, fun k hk => ?_, fun k hk hR' => ?_⟩
  · exact List.Pairwise.nil
  · rw [hN] at hk; obtain rfl := List.mem_singleton.1 hk; exact ht
  · rcases hk with rfl | hk | ⟨x, hx, _⟩
    · exact h1.size
    · cases hk
    · cases hx
  · rw [hN] at hk
    obtain rfl := List.mem_singleton.1 hk
    rcases hR' with e | e | ⟨x, hx, _⟩
    · omega
    · cases e
    · cases hx

/-- The reference's tape as the law has it. -/
structure GoodR (p : Pl) : Prop where
  fits : Fits p
  fuse : p.fuse = -1
  down : p.down = false
  named : Named p.A
theorem GoodR.form {p : Pl} (h : GoodR p) : p = ⟨20000, p.A, -1, false⟩ := by
  obtain ⟨a, b, c, d⟩ := p
  have h1 := h.fits.room
  have h2 := h.fuse
  have h3 := h.down
  simp only at h1 h2 h3
  rw [h1, h2, h3]
theorem named_rise {A : List Sg} (h : Named A) : Named (riseA A) := fun x hx => h x (mem_rise.1 hx)
theorem GoodR.app {p : Pl} (h : GoodR p) {n : Int} (h0 : 0 ≤ n) (h1 : n ≤ 1048576) (b : List UInt8) : GoodR (doS p 0 n 0 b).2 := by
  have hb : burnP p = p := burnP_of h.fuse
  refine ⟨h.fits.doS 0 n 0 b, ?_, ?_, ?_⟩
  · unfold doS doP
    repeat' split
    all_goals first | exact h.fuse | (show (burnP p).fuse = -1; rw [hb]; exact h.fuse) | skip
  · unfold doS doP
    repeat' split
    all_goals first | exact h.down | (show (burnP p).down = false; rw [hb]; exact h.down) | skip
    rename_i hz
    exact absurd (h.fuse.symm.trans hz) (by omega)
  · unfold doS doP
    repeat' split
    all_goals first | exact named_rise h.named | skip
    refine named_rise ?_
    intro x hx
    replace hx : x ∈ putS p.A _ := hx
    unfold putS at hx
    rcases List.mem_cons.1 hx with rfl | hx
    · exact ⟨h0, h1⟩
    · exact h.named x (mem_dropS.1 hx).1
/-- An append to both. -/
theorem Mid.rdoE {w0 w1 w2 : World} {t r : Nat} {R : RTp} {q : Pl} {n : Int} {b : List UInt8} (h : Mid w0 t r R q w1) (he : q.Eq (doP (plR R) 0 n 0 b).2) (hg : GoodR (plR R)) (h0 : 0 ≤ n) (h1 : n ≤ 1048576) (hd : DoP w1 r R (doP (plR R) 0 n 0 b).2 w2) : ∃ T' R', TR w0 w2 t r T' R' ∧ GoodR (plR R') := by
  have hR := h.ref
  obtain ⟨T, h1', h2, h3, h4, h5, h6, h7, h8⟩ := h
  obtain ⟨R', k1, k2, k3, k4⟩ := hd
  have hrT : r ∉ T.blocks t := fun hk => h8 r hk (.inl rfl)
  have hb : Below w0.heap.size w1 w2 := k3.below (fun i hi => by subst hi; exact h7 _ (.inl rfl)) h5.size
  refine ⟨T, R', ⟨h1'.touch k3 (fun k hk e => hrT (by rw [← e]; exact hk)), k1, (h2.trans he).trans k2.symm, h4, h5.trans hb, h6, fun k hk => ?_, fun k hk hR => ?_⟩, ?_⟩
  · rcases k4 k hk with hk | hk
    · exact h7 k hk
    · have := h5.size; omega
  · rcases k4 k hR with hR | hR
    · exact h8 k hk hR
    · have := h1'.lt k hk; omega
  · have hnd : (numsOf (doP (plR R) 0 n 0 b).2.A).Nodup := doP_nodup (p := plR R) hR.nodup 0 n 0 b
    have e : plR R' = rise (doP (plR R) 0 n 0 b).2 := Pl.Eq.uniq k1.rises (riseA_rises hnd) (k2.trans (rise_eq _).symm)
    rw [e]
    exact hg.app h0 h1 b
/-- Bytes are not where the reference's tape is. -/
theorem BIs.offR {w w' : World} {r : Nat} {R : RTp} {v : Value} {l : List UInt8} (h : BIs w v l) (hr : RefAt w r R) (ht : Touch (· = r) w w') : BIs w' v l := by
  obtain ⟨A, cap, e, h1, h2, h3⟩ := h
  refine ⟨A, cap, e, h1, h2, fun i b hi => ?_⟩
  obtain ⟨a, q1, q2, q3⟩ := h3 i b hi
  refine ⟨a, q1, Nat.lt_of_lt_of_le q2 ht.size, ?_⟩
  by_cases hb : a.block = r
  · exfalso
    obtain ⟨B, cp, ev, _⟩ := hr.row.form
    have hq := q3
    unfold World.cell? at hq
    rw [add_block, hb, hr.head, ev] at hq
    dsimp only at hq
    split at hq
    · cases hq
    · generalize (a.add i).off = o at hq
      match o, hq with
      | 0, hq => simp at hq
      | 1, hq => simp at hq
      | 2, hq => simp at hq
      | 3, hq => simp at hq
      | o + 4, hq => simp at hq
  · exact (World.cell?_of_block (a := a.add i) (by rw [add_block]; exact ht.block _ q2 hb)).trans q3
theorem JAt.offR {w w' : World} {j t r : Nat} {T : Tp} {J : Js} {sv rv : Value} {xs : List Value} {R : RTp} (h : JAt w j t T J sv rv xs) (hr : RefAt w r R) (hj : ¬ JB j t T rv r) (ht : Touch (· = r) w w') : JAt w' j t T J sv rv xs := by
  have hne : ∀ k, JB j t T rv k → k ≠ r := fun k hk e => hj (by rw [← e]; exact hk)
  have hbf : ∀ {F : Nat → Prop} {v : Value} {l : List UInt8}, BF w F v l → BF w' F v l := fun hb => ⟨hb.1.offR hr ht, fun a n c e => ⟨(hb.2 a n c e).1, Nat.lt_of_lt_of_le (hb.2 a n c e).2 ht.size⟩⟩
  exact ⟨(ht.block j (heap_lt h.head) (hne j (.inl rfl))).trans h.head, h.tp.touch ht (fun k hk => hne k (.inr (.inl hk))), hbf h.st, h.row.keep ht.size (fun k hk => ht.block k (h.row.lt k hk).2 (hne k (.inr (.inr hk)))), ⟨h.recs.1, fun i x l hx hl => hbf (h.recs.2 i x l hx hl)⟩, h.jt, h.rj, h.rt⟩
/-- The reference's journal as it lies apart from the tape. -/
structure RFarJ (w : World) (w1s : Nat) (q r : Nat) (R : RTp) (sv rv : Value) (xs : List Value) (st : List UInt8) (rs : List (List UInt8)) : Prop where
  c0 : w.cell? ⟨q, 0, none⟩ = some (.pointer (some ⟨r, 0, none⟩))
  c3 : w.cell? ⟨q, 3, none⟩ = some sv
  c4 : w.cell? ⟨q, 4, none⟩ = some rv
  ok : RefOk w r R
  st : BF w (RBlk r R) sv st
  row : OwnS w w1s rv xs
  rs : BFs w (RBlk r R) xs rs
theorem RFarJ.see {w : World} {w1s q r : Nat} {R : RTp} {sv rv : Value} {xs : List Value} {st : List UInt8} {rs : List (List UInt8)} (h : RFarJ w w1s q r R sv rv xs st rs) : RSee w q r R sv rv st rs :=
  ⟨h.c0, h.c3, h.c4, h.ok, h.st.1, pis_of (h.row.vis.mono (G := fun _ => True) fun _ _ _ => trivial) (h.rs.mono (G := fun _ => True) fun _ _ _ => trivial)⟩
theorem RFarJ.touch {w w' : World} {S : Nat → Prop} {w1s q r : Nat} {R : RTp} {sv rv : Value} {xs : List Value} {st : List UInt8} {rs : List (List UInt8)} (h : RFarJ w w1s q r R sv rv xs st rs) (ht : Touch S w w') (hS : ∀ k, RBlk r R k → ¬ S k) (hq : ¬ S q) (hr : ∀ k, w1s ≤ k → k < w.heap.size → ¬ S k) : RFarJ w' w1s q r R sv rv xs st rs :=
  ⟨cell_touch h.c0 ht hq, cell_touch h.c3 ht hq, cell_touch h.c4 ht hq, h.ok.touch ht hS, h.st.touch ht hS, h.row.keep ht.size (fun k hk => ht.block k (h.row.lt k hk).2 (hr k (h.row.lt k hk).1 (h.row.lt k hk).2)), h.rs.touch ht hS⟩
theorem RFarJ.below {w w' : World} {w1s q r : Nat} {R : RTp} {sv rv : Value} {xs : List Value} {st : List UInt8} {rs : List (List UInt8)} (h : RFarJ w w1s q r R sv rv xs st rs) (hb : Below w.heap.size w w') : RFarJ w' w1s q r R sv rv xs st rs :=
  h.touch (S := fun _ => False) (.of_below hb) (fun _ _ h => h) (fun h => h) (fun _ _ _ h => h)
set_option maxRecDepth 100000 in
theorem ropen_arg {w : World} {p : Value} {seg : Int} (h : seg < 16 ∨ 1048576 < seg) : Calls Tryz.prog 25 #[p, .int .i64 seg] w fun e w' => e = .returned (.tuple #[.pointer none, .int .i64 2]) ∧ w = w' := by
  by_cases h1 : seg < 16
  · have q1 : decide (seg < 16) = true := decide_eq_true h1
    clear h
    go_enter Tryz.func25, Tryz.ntmps25
    go_wp2_with fail
    go_ret2
    exact ⟨rfl, rfl⟩
  · have h2 : 1048576 < seg := h.resolve_left h1
    have q1 : decide (seg < 16) = false := decide_eq_false h1
    have q2 : decide (1048576 < seg) = true := decide_eq_true h2
    clear h
    go_enter Tryz.func25, Tryz.ntmps25
    go_wp2_with fail
    go_ret2
    exact ⟨rfl, rfl⟩
theorem u8_xor (a b : UInt8) : bits .xor .u8 (a.toNat : Int) (b.toNat : Int) = ((a ^^^ b).toNat : Int) := by
  rw [u8_xor_nat _ _ (UInt8.toNat_lt a) (UInt8.toNat_lt b)]
  rfl
end Go.Proofs.YtnegnokielmgkaaGreatDoor

namespace Go.Proofs.YtnegnokielmgkaaGreatDoor
open Go.RowKit

/-- What the law's loop holds. -/
def LoopO (w wx : World) (t r : Nat) : Prop := ∃ (T : Tp) (R : RTp), TR w wx t r T R ∧ GoodR (plR R)
theorem pis_el {w : World} {A : Option Addr} {n c : Nat} {ls : List (List UInt8)} (h : PIs w (.slice A n c) ls) {k : Nat} {l : List UInt8} (hl : ls[k]? = some l) : ∃ a x, A = some a ∧ w.cell? (a.add k) = some x ∧ BIs w x l := by
  obtain ⟨A', c', e, _, _, h3⟩ := h
  injection e with e1 _ e3
  subst e1 e3
  obtain ⟨a, x, q1, q2, q3, q4⟩ := h3 k l hl
  exact ⟨a, x, q1, q3, q4⟩
theorem says_le {k : Nat} {l r : List UInt8} (h : saysB k l = some r) : r.length ≤ l.length := by
  cases l with
  | nil => cases h
  | cons x t =>
    replace h : (if x.toNat = k then some t else none) = some r := h
    split at h
    · cases h; simp
    · cases h
theorem headS_le (C : List Sg) : (headS C 0).length ≤ 16384 := by
  cases C with
  | nil => exact Nat.zero_le _
  | cons y C =>
    show (((some (checkB (frmB y.2.1))).getD none).getD []).length ≤ 16384
    show ((checkB (frmB y.2.1)).getD []).length ≤ 16384
    cases hf : frmB y.2.1 with
    | nil => exact Nat.zero_le _
    | cons l ls =>
      cases hc : checkB (l :: ls) with
      | none => exact Nat.zero_le _
      | some r =>
        have h1 : r.length ≤ l.length := says_le (k := 1) hc
        have h2 := (frmB_is y.2.1).1.le l (by rw [hf]; exact List.mem_cons_self ..)
        show r.length ≤ 16384
        omega
theorem recsOf_le (C : List Sg) : ∀ l ∈ recsOf C, l.length ≤ 16384 := fun l hl => by
  unfold recsOf at hl
  obtain ⟨x, hx, hl⟩ := List.mem_flatMap.1 hl
  unfold recsB at hl
  obtain ⟨m, hm, hs⟩ := List.mem_filterMap.1 hl
  have h1 := says_le hs
  have h2 := (frmB_is x.2.1).1.le m hm
  omega
theorem OwnBy.rowsJ {w : World} {b0 : Nat} {v : Value} {l : List UInt8} (h : OwnBy w b0 v l) : ∀ A n c, v = .slice (some A) n c → b0 ≤ A.block := fun A n c e => by
  rcases h with ⟨h, _⟩ | ⟨g, cap, h, hc⟩
  · rw [h] at e; cases e
  · rw [h] at e
    injection e with e _ _
    injection e with e
    rw [← e]
    exact hc.new
theorem OwnBy.keepB {w w' : World} {b0 : Nat} {v : Value} {l : List UInt8} (h : OwnBy w b0 v l) (hs : w.heap.size ≤ w'.heap.size) (hk : ∀ k, b0 ≤ k → k < w.heap.size → w'.heap[k]? = w.heap[k]?) : OwnBy w' b0 v l := by
  rcases h with h | ⟨g, cap, e, hc⟩
  · exact .inl h
  · exact .inr ⟨g, cap, e, hc.keep hs (hk g hc.new hc.lt)⟩
theorem one_keeps {w w' : World} {b0 : Nat} {x : Value} (hs : (w.alloc (.cells #[x] 32)).heap.size ≤ w'.heap.size) (hk : ∀ k, b0 ≤ k → k < (w.alloc (.cells #[x] 32)).heap.size → w'.heap[k]? = (w.alloc (.cells #[x] 32)).heap[k]?) : w.heap.size ≤ w'.heap.size ∧ ∀ k, b0 ≤ k → k < w.heap.size → w'.heap[k]? = w.heap[k]? := by
  rw [asz] at hs
  refine ⟨by omega, fun k h1 h2 => ?_⟩
  exact (hk k h1 (by rw [asz]; omega)).trans ((below_new (w := w) _).block k h2)
theorem one_pis {w w' : World} {b0 : Nat} {x : Value} {l : List UInt8} (h : OwnBy w b0 x l) (hs : (w.alloc (.cells #[x] 32)).heap.size ≤ w'.heap.size) (hk : ∀ k, b0 ≤ k → k < (w.alloc (.cells #[x] 32)).heap.size → w'.heap[k]? = (w.alloc (.cells #[x] 32)).heap[k]?) (hb : b0 ≤ w.heap.size) : PIs w' (.slice (some ⟨w.heap.size, 0, none⟩) 1 1) [l] := by
  obtain ⟨k1, k2⟩ := one_keeps hs hk
  have hA := (hk w.heap.size hb (by rw [asz]; exact Nat.lt_succ_self _)).trans (alloc_at w (.cells #[x] 32))
  refine ⟨_, _, rfl, Nat.le_refl _, by unfold maxLen; omega, fun i l' hi => ?_⟩
  have h0 : i = 0 := by
    rcases Nat.eq_zero_or_pos i with h | h
    · exact h
    · rw [List.getElem?_eq_none (by simp; omega)] at hi; cases hi
  subst h0
  obtain rfl : l = l' := by simpa using hi
  exact ⟨_, x, rfl, heap_lt hA, cell_of hA 0, (h.keepB k1 k2).bis⟩
set_option maxRecDepth 100000 in
set_option maxHeartbeats 4000000 in
theorem law_opens {w : World} (hG : Glob w) (hM : Mov w) {lv sv : Value} {ls : List (List UInt8)} {ss : List Int} (seg spoilt : Int) (by' : UInt8) (hl : PIs w lv ls) (hs : IIs w sv ss) (hsp : -9223372036854775808 ≤ spoilt ∧ spoilt ≤ 9223372036854775807) (hsr : ∀ k ∈ ss, -9223372036854775808 ≤ k ∧ k ≤ 9223372036854775807) : Calls Tryz.prog 4 #[lv, sv, .int .i64 seg, .int .i64 spoilt, .int .u8 (by'.toNat : Int)] w fun e w' => e = .returned (.bool true) ∧ Below w.heap.size w w' := by
  have HG := Lib.hid hG
  have HM := Lib.hid hM
  have HLS := Lib.hid hl
  have HSS := Lib.hid hs
  have HSR := Lib.hid hsr
  have HSP := Lib.hid hsp
  have HN := Lib.hid (new_ok (w := w) (n := 20000) (by omega))
  have HRN := Lib.hid (fun (V : World) => rnew_any (w := V) 20000)
  obtain ⟨A, cap, rfl, hl1, hl2, _⟩ := hl
  obtain ⟨As, cs, rfl, hs1, hs2, _⟩ := hs
  unfold maxLen at hl2 hs2
  clear hG hM hsr hsp
  go_enter Tryz.func4, Tryz.ntmps4
  go_wp2_with fail
  refine (HN.out).mono ?_
  rintro e w1 ⟨rfl, hT, hb1⟩
  have HT := Lib.hid hT
  have HB1 := Lib.hid hb1
  clear hT hb1
  go_wp2_with fail
  refine (HRN.out _).mono ?_
  rintro e w2 ⟨rfl, hR, hb2⟩
  have HST : Hid (LoopO w w2 w.heap.size w1.heap.size) := Lib.hid ⟨_, _, start_TRj HG.out (Nat.le_refl _) HT.out HB1.out rfl hR hb2, ⟨⟨rfl, List.nodup_nil, Nat.zero_le _, fun x hx => by cases hx⟩, rfl, rfl, fun x hx => by cases hx⟩⟩
  clear hR hb2
  go_upto_block 0 with fail
  go_cut [] from 14 to 92 (fun wx => LoopO w wx w.heap.size w1.heap.size)
  case first =>
    go_wp2_with fail
    go_loopw [32] (fun iv wr => ∃ k : Nat, k ≤ ls.length ∧ k ≤ 12 ∧ iv = .int .i64 k ∧ LoopO w wr w.heap.size w1.heap.size) (fun iv _ => ls.length - (intOf iv).toNat)
    case atStart => exact ⟨0, Nat.zero_le _, by omega, rfl, HST.out⟩
    case round =>
      obtain ⟨k, hk, hk12, rfl, T, R, htr, hgd⟩ := hrel
      have HTR := Lib.hid htr
      have HGD := Lib.hid hgd
      clear htr hgd
      by_cases hlt : k < ls.length
      · have hlk : ls[k]? = some ls[k] := List.getElem?_eq_getElem hlt
        generalize ls[k] = l at hlk
        obtain ⟨a, x, rfl, hcx, hbx⟩ := pis_el (HLS.out.below HTR.out.below) hlk
        obtain ⟨Ax, cx, rfl, _⟩ := id hbx
        have HBX := Lib.hid hbx
        have HLT := Lib.hid hlt
        have hi : (k : Int) < (ls.length : Int) := by omega
        clear hbx hlk hk
        by_cases hk2 : k < 12
        · have l12 : ¬ (12 : Int) ≤ (k : Int) := by omega
          by_cases hks : k < ss.length
          · have lks : ¬ (ss.length : Int) ≤ (k : Int) := by omega
            have hik : (k : Int) < (ss.length : Int) := by omega
            obtain ⟨A2, c2, e2, _, _, h32⟩ := HSS.out.below HTR.out.below
            injection e2 with e21 _ e23
            subst e21 e23
            obtain ⟨a2, ea2, ha2, hcs⟩ := h32 k _ (List.getElem?_eq_getElem hks)
            subst ea2
            have hrs := HSR.out _ (List.getElem_mem hks)
            generalize ss[k] = s at hcs hrs
            obtain ⟨m, hm6, hmm⟩ := tmod_cases s 6 (by omega)
            have HMM := Lib.hid hm6
            generalize hz : s.tmod 6 = z at *
            have HZ := Lib.hid hmm
            clear h32 hmm hlt hk12
            go_upto_if 51 with fail
            go_cut [16] from 50 to 53 (fun nv wx => nv = .int .i64 m ∧ wr = wx)
            case first =>
              rcases HZ.out with h9 | ⟨h0, h9⟩
              · have q1 : ¬ z < 0 := by omega
                have H9 := Lib.hid h9
                clear h9
                go_wp2_with fail
                go_meet
                exact ⟨by rw [H9.out], rfl⟩
              · have q1 : z < 0 := by omega
                have q2 : IntKind.i64.wrap (-z) = (m : Int) := by rw [h9, Int.neg_neg]; exact IntWalk.i64_in _ (by omega)
                clear h9
                go_wp2_with fail
                go_meet
                exact ⟨by first | rfl | rw [q2], rfl⟩
            case rest =>
              obtain ⟨rfl, rfl⟩ := hcut
              have hop : OldP wr (wr.alloc (.cells #[.slice Ax l.length cx] 32)) (.slice (some ⟨wr.heap.size, 0, none⟩) 1 1) [l] := by
                refine ⟨_, _, rfl, Nat.le_refl _, by unfold maxLen; omega, fun i l' hi => ?_⟩
                have h0 : i = 0 := by
                  rcases Nat.eq_zero_or_pos i with h | h
                  · exact h
                  · rw [List.getElem?_eq_none (by simp; omega)] at hi; cases hi
                subst h0
                obtain rfl : l = l' := by simpa using hi
                exact ⟨_, _, rfl, by rw [asz]; exact Nat.lt_succ_self _, cell_of (alloc_at wr (.cells #[.slice Ax l.length cx] 32)) 0, HBX.out⟩
              have HSO := Lib.hid (some_any hop)
              have HB0 := Lib.hid (below_new (w := wr) (.cells #[.slice Ax l.length cx] 32))
              clear hop hcx hcs ha2 hrs hz
              go_wp2_with fail
              refine (HSO.out).mono ?_
              rintro e w3 ⟨v3, xs3, rfl, hown, hold, hb3⟩
              have HF := Lib.hid (jfirst_any hown (by rw [hold.1]; have := someB_len [l]; omega))
              have HX := Lib.hid (head_old hold)
              have HB3 := Lib.hid (HB0.out.trans (hb3.mono HB0.out.size))
              clear hown hold hb3 HSO
              go_wp2_with fail
              refine (HF.out).mono ?_
              rintro e w3' ⟨rfl, rfl⟩
              generalize headV xs3 = sv2 at *
              generalize hst2 : firstB (someB [l]) = st2 at *
              have HST2 : Hid (st2.length ≤ 60) := Lib.hid (by rw [← hst2]; exact firstB_le _)
              clear hst2
              have HFD := Lib.hid (framed_any (HX.out.below HB3.out) HST2.out)
              go_wp2_with fail
              refine (HFD.out).mono ?_
              rintro e w4 ⟨rw, raw, rfl, hor, hrl, hb4⟩
              have HB4 := Lib.hid (HB3.out.trans (hb4.mono HB3.out.size))
              have HOR : Hid (OwnBy w4 wr.heap.size rw raw) := Lib.hid (hor.lower HB3.out.size)
              have HRL := Lib.hid hrl
              have HTR4 := Lib.hid (HTR.out.keep HB4.out)
              obtain ⟨Ar, cr, rfl, hr1, hr2, _⟩ := id hor.bis
              unfold maxLen at hr2
              clear hor hb4
              go_upto_region 12 with fail
              go_cut [66] from 60 to 65 (fun cv wx => w4 = wx ∧ ∃ d, cv = .bool d ∧ (d = true → 0 < raw.length))
              case first =>
                by_cases hk0 : k = 0
                · have l1 : ((k : Int) == 0) = true := by rw [hk0]; rfl
                  clear hk0
                  by_cases hz0 : 0 < raw.length
                  · have l2 : (0 : Int) < (raw.length : Int) := by omega
                    go_wp2_with fail
                    go_meet
                    exact ⟨rfl, _, rfl, fun _ => hz0⟩
                  · have l2 : ¬ (0 : Int) < (raw.length : Int) := by omega
                    go_wp2_with fail
                    go_meet
                    exact ⟨rfl, _, rfl, fun h => by first | (simp at h; omega) | simp at h⟩
                · have l1 : ((k : Int) == 0) = false := by rw [beq_eq_false_iff_ne]; omega
                  have l2 : ¬ (k : Int) = 0 := by omega
                  clear hk0
                  go_wp2_with fail
                  go_meet
                  exact ⟨rfl, false, rfl, fun h => by cases h⟩
              case rest =>
                obtain ⟨rfl, d, rfl, hd⟩ := hcut
                have HD := Lib.hid hd
                clear hd
                go_upto_if 66 with fail
                go_cut [18] from 67 to 81 (fun kv wx => ∃ raw', raw'.length = raw.length ∧ OwnBy wx wr.heap.size (.slice Ar raw.length cr) raw' ∧ Below wr.heap.size wr wx)
                case first =>
                  cases d with
                  | false =>
                    go_wp2_with fail
                    go_meet
                    exact ⟨raw, rfl, HOR.out, HB4.out⟩
                  | true =>
                    have hlen := HD.out rfl
                    obtain ⟨g, c9, e9, hoc⟩ := HOR.out.form (fun e => by rw [e] at hlen; cases hlen)
                    injection e9 with e91 _ e93
                    subst e91 e93
                    obtain ⟨m2, hm2, hmm2⟩ := tmod_cases spoilt raw.length hlen
                    have hrm : raw[m2]? = some raw[m2] := List.getElem?_eq_getElem hm2
                    have hcm := hoc.holds m2 _ hrm
                    have hfm := (hoc.there m2 (Nat.lt_of_lt_of_le hm2 hoc.le)).2
                    have HNEW := Lib.hid (hoc.set hm2 (raw[m2] ^^^ by'))
                    have hgn := hoc.new
                    have HGN := Lib.hid hgn
                    have hxor := u8_xor raw[m2] by'
                    rw [← hxor] at HNEW
                    have HFIN : Hid (∃ raw', raw'.length = raw.length ∧ OwnBy (w4.setCell ⟨g, m2, none⟩ (.int .u8 (bits .xor .u8 (raw[m2].toNat : Int) (by'.toNat : Int)))) wr.heap.size (.slice (some ⟨g, 0, none⟩) raw.length cr) raw' ∧ Below wr.heap.size wr (w4.setCell ⟨g, m2, none⟩ (.int .u8 (bits .xor .u8 (raw[m2].toNat : Int) (by'.toNat : Int))))) :=
                      Lib.hid ⟨raw.set m2 (raw[m2] ^^^ by'), List.length_set, .inr ⟨g, cr, by rw [List.length_set], HNEW.out⟩, HB4.out.setCell (show _ ≤ g from HGN.out) _⟩
                    clear hoc hrm hgn hxor HNEW
                    generalize ((raw[m2].toNat : Nat) : Int) = z1 at *
                    generalize ((by'.toNat : Nat) : Int) = z2 at *
                    generalize raw.length = N at *
                    have hadd : (⟨g, 0, none⟩ : Addr).add m2 = ⟨g, m2, none⟩ := add0 _ _
                    have l1 : ((N : Int) == 0) = false := by rw [beq_eq_false_iff_ne]; omega
                    have l2 : ¬ (N : Int) = 0 := by omega
                    have l3 : (m2 : Int) < (N : Int) := by omega
                    generalize hy : spoilt.tmod (N : Int) = y at *
                    rcases hmm2 with h9 | ⟨h0, h9⟩
                    · have q1 : ¬ y < 0 := by omega
                      subst h9
                      go_wp2_with fail
                      go_meet
                      exact HFIN.out
                    · have q1 : y < 0 := by omega
                      have q2 : IntKind.i64.wrap (-y) = (m2 : Int) := by rw [h9, Int.neg_neg]; exact IntWalk.i64_in _ (by have := HRL.out; omega)
                      clear h9
                      go_wp2_with fail
                      go_meet
                      exact HFIN.out
                case rest =>
                  obtain ⟨raw', hrl', hor', hb5⟩ := hcut
                  have HOR5 := Lib.hid hor'
                  have HB5 := Lib.hid hb5
                  have HRL5 := Lib.hid hrl'
                  have HA5 := Lib.hid (below_new (w := wc) (.cells #[.slice Ar raw.length cr] 32))
                  have HV : Hid (Below wr.heap.size wr (wc.alloc (.cells #[.slice Ar raw.length cr] 32))) := Lib.hid (HB5.out.trans (HA5.out.mono HB5.out.size))
                  have hfl : [raw'].flatten = raw' := by simp
                  have HT := Lib.hid (HTR.out.app (S := fun _ => False) (ls := [raw']) (A := some ⟨wc.heap.size, 0, none⟩) (m := 1) (c := 1) (m : Int) (by rw [hfl]; have h8 := HRL.out; have h9 := HRL5.out; omega) _ HV.out (fun k hk => hk.elim) (fun w' hs hk => one_pis HOR5.out hs hk HB5.out.size))
                  rw [hfl] at HT
                  have HEQ := Lib.hid (HTR.out.doEq 0 (m : Int) 0 raw')
                  have HRT := Lib.hid HTR.out.rlt
                  generalize hans : (doP (plT T) 0 (m : Int) 0 raw').1 = ans at *
                  generalize hq : (doP (plT T) 0 (m : Int) 0 raw').2 = q at *
                  clear hor' hb5 hfl hans hq hrl'
                  go_wp2_with fail
                  refine (HT.out).mono ?_
                  rintro e w7 ⟨rfl, hmg, hk7, hz7⟩
                  have HMD := Lib.hid hmg.mid
                  have HBI : Hid (BIs w7 (.slice Ar raw.length cr) raw') := Lib.hid ((HOR5.out.keepB (one_keeps hz7 hk7).1 (one_keeps hz7 hk7).2).bis)
                  have HDO := Lib.hid (rdo0 HMD.out.ref (m : Int) 0 HBI.out (fun hne A' n' c' e => by
                    have h9 := HOR5.out.rowsJ A' n' c' e
                    have h8 := HRT.out
                    omega))
                  rw [← HEQ.out.1] at HDO
                  clear hmg hk7 hz7
                  go_wp2_with fail
                  refine (HDO.out).mono ?_
                  rintro e w8 ⟨rfl, hdo⟩
                  have HFI := Lib.hid (HMD.out.rdoE HEQ.out.2 HGD.out (by omega) (by omega) hdo)
                  clear hdo
                  go_wp2_with fail
                  go_roundw
                  case rel => exact ⟨k + 1, HLT.out, hk2, by go_num, HFI.out⟩
                  case measure => have := HLT.out; simp [intOf]; omega
          · have lks : (ss.length : Int) ≤ (k : Int) := by omega
            go_wp2_with fail
            go_meet
            exact ⟨T, R, HTR.out, HGD.out⟩
        · have l12 : (12 : Int) ≤ (k : Int) := by omega
          go_wp2_with fail
          go_meet
          exact ⟨T, R, HTR.out, HGD.out⟩
      · have hi : ¬ (k : Int) < (ls.length : Int) := by omega
        go_wp2_with fail
        go_meet
        exact ⟨T, R, HTR.out, HGD.out⟩
  case rest =>
    obtain ⟨T, R, htr, hgd⟩ := hcut
    have HTR := Lib.hid htr
    have HGD := Lib.hid hgd
    have HFM := Lib.hid hgd.form
    have HSY : Hid (Syn (plR R).A) := Lib.hid (fun x hx => by
      obtain ⟨y, hy, rfl⟩ := List.mem_map.1 hx
      exact (htr.ref.ref.segs y hy).2)
    clear htr hgd HST HSR HSP HLS HSS
    by_cases hseg : seg < 16 ∨ 1048576 < seg
    · have HJA := Lib.hid (jopen_arg (w := wc) (t := w.heap.size) hseg)
      have HRA := Lib.hid (ropen_arg (w := wc) (p := .pointer (some ⟨w1.heap.size, 0, none⟩)) hseg)
      have HAW := Lib.hid (awake5 (HG.out.below HTR.out.below) (HM.out.below HTR.out.below))
      clear hseg
      go_wp2_with fail
      refine (HJA.out).mono ?_
      rintro e w5 ⟨rfl, rfl⟩
      go_wp2_with fail
      refine (HRA.out).mono ?_
      rintro e w5 ⟨rfl, rfl⟩
      go_wp2_with fail
      refine (HAW.out).mono ?_
      rintro e w6 ⟨rfl, hb6⟩
      have HB6 := Lib.hid (HTR.out.below.trans (hb6.mono HTR.out.below.size))
      clear hb6
      go_wp2_with fail
      go_ret
      exact ⟨rfl, HB6.out⟩
    · obtain ⟨sg, rfl⟩ : ∃ sg : Nat, seg = (sg : Int) := ⟨seg.toNat, by omega⟩
      have h16 : 16 ≤ sg := by omega
      have hle : sg ≤ 1048576 := by omega
      have H16 := Lib.hid (And.intro h16 hle)
      have hzA : sizeS (plR R).A ≤ 1000000 := by have := HGD.out.fits.size; omega
      have htp : TP wc w.heap.size T ⟨20000, (plR R).A, -1, false⟩ := ⟨HTR.out.tape, by rw [← HFM.out]; exact HTR.out.eq, HTR.out.ref.rises⟩
      have HOP := Lib.hid (jopen (seg := sg) htp HTR.out.globW (HM.out.below HTR.out.below) HTR.out.far (fun hc => by have h8 := HTR.out.newT _ hc; have h9 := HM.out.lt; omega) h16 hle hzA)
      have HRS : Hid (Rises (plR R).A) := Lib.hid HTR.out.ref.rises
      rw [load_is HRS.out HGD.out.named HSY.out] at HOP
      have HLO := Lib.hid (fun (sgg : Nat) => again_is (room := 20000) (seg := sgg) HRS.out HGD.out.named HSY.out)
      have HZC : Hid (sizeS (openC (openB (plR R).A)) ≤ 1000000) := Lib.hid (Nat.le_trans (sizeS_sub (openC_sub _)) (Nat.le_trans (openB_size _) hzA))
      have HZA := Lib.hid hzA
      clear hseg h16 hle hzA htp
      go_wp2_with fail
      refine (HOP.out).mono ?_
      intro e w5 hop
      rcases hop with ⟨h, _⟩ | ⟨_, j, T', sj, rj, xj, rfl, hj, ht5, hjb⟩
      · exact absurd rfl h
      have HJ5 := Lib.hid hj
      have HT5 := Lib.hid ht5
      have HJB := Lib.hid hjb
      have HB5 : Hid (Below w.heap.size w w5) := Lib.hid (HTR.out.below.trans (ht5.below HTR.out.newT HTR.out.below.size))
      have HOK : Hid (RefOk w5 w1.heap.size R) := Lib.hid (HTR.out.ref.touch ht5 (fun k hk hT => HTR.out.apart k hT hk))
      have HRO := Lib.hid (ropen_any (seg := (sg : Int)) HOK.out HFM.out HGD.out.named HSY.out HZA.out (by have := H16.out.1; omega) (by have := H16.out.2; omega))
      clear hj ht5 hjb HOP
      generalize openC (openB (plR R).A) = C at *
      go_wp2_with fail
      refine (HRO.out).mono ?_
      rintro e w6 ⟨q, R', sv, rv, xs, cur, w1', rfl, hbw, hrj, hq, hsv, hrv, hxs⟩
      have HBW := Lib.hid hbw.size
      have HRB := Lib.hid hrj.blk
      have HQ5 := Lib.hid hq
      have ht6 : Touch (· = w1.heap.size) w5 w6 := (Touch.of_below (S := (· = w1.heap.size)) hbw).trans hrj.touch (fun k hk hc => hc.elim id (fun e => by omega))
      have HT6 := Lib.hid ht6
      have hrnj : ¬ JB j w.heap.size T' rj w1.heap.size := fun hc => by
        have hlt := heap_lt HTR.out.ref.ref.head
        rcases HJB.out _ hc with h8 | h8
        · exact HTR.out.apart _ h8 (.inl rfl)
        · omega
      have HJ6 := Lib.hid (HJ5.out.offR HOK.out.ref hrnj ht6)
      have HB6 : Hid (Below w.heap.size w w6) := Lib.hid (HB5.out.trans (ht6.below (fun k hk => by subst hk; exact HTR.out.newR _ (.inl rfl)) HB5.out.size))
      have HFA : Hid (RFarJ w6 w1'.heap.size q w1.heap.size R' sv rv xs (headS C 0) (recsOf C)) := Lib.hid ⟨cell_of hrj.head 0, cell_of hrj.head 3, cell_of hrj.head 4, hrj.ok, hsv, hrv, hxs⟩
      have HEA : Hid (C = absR R'.L) := Lib.hid hrj.isA.symm
      have HRL : Hid ((recsOf C).length ≤ 1000000) := Lib.hid (Nat.le_trans (recsOf_len C) HZC.out)
      have HSM := Lib.hid (same5_any HJ6.out HFA.out.see HEA.out (Nat.le_trans (headS_le C) (by omega)) HRL.out (fun l hl => Nat.le_trans (recsOf_le C l hl) (by omega)))
      clear hbw hrj hq hsv hrv hxs ht6 hrnj
      go_wp2_with fail
      refine (HSM.out).mono ?_
      rintro e w7 ⟨rfl, hb7⟩
      have HB67 := Lib.hid hb7
      have HB7 := Lib.hid (HB6.out.trans (hb7.mono HB6.out.size))
      have hTb : ∀ k ∈ T'.blocks w.heap.size, (k ∈ T.blocks w.heap.size ∨ wc.heap.size ≤ k) ∧ k < w5.heap.size := fun k hk => ⟨HJB.out k (.inr (.inl hk)), HJ5.out.lt k (.inr (.inl hk))⟩
      have HTB := Lib.hid hTb
      have HOP2 := Lib.hid (jopen (seg := sg) (HJ6.out.tp.below hb7) (HG.out.below HB7.out) (HM.out.below HB7.out) (fun hc => by
          have h9 := HG.out.lt
          have h10 := HTR.out.below.size
          rcases (HTB.out _ hc).1 with h8 | h8
          · exact HTR.out.far h8
          · omega) (fun hc => by
          have h9 := HM.out.lt
          have h10 := HTR.out.below.size
          rcases (HTB.out _ hc).1 with h8 | h8
          · have := HTR.out.newT _ h8; omega
          · omega) H16.out.1 H16.out.2 HZC.out)
      rw [HLO.out] at HOP2
      clear hb7 hTb
      go_wp2_with fail
      refine (HOP2.out).mono ?_
      intro e w8 hop
      rcases hop with ⟨h, _⟩ | ⟨_, j2, T2, sj2, rj2, xj2, rfl, hj2, ht8, _⟩
      · exact absurd rfl h
      have HJ8 := Lib.hid hj2
      have HFB : Hid (RFarJ w8 w1'.heap.size q w1.heap.size R' sv rv xs (headS C 0) (recsOf C)) := Lib.hid ((HFA.out.below HB67.out).touch ht8 (fun k hk hc => by
          obtain ⟨h8, h9⟩ := HTB.out k hc
          rcases HRB.out k hk with h10 | h10
          · rcases h8 with h8 | h8
            · exact HTR.out.apart k h8 h10
            · have := HTR.out.ref.lt k h10; omega
          · have := HBW.out; omega) (fun hc => by have h9 := (HTB.out q hc).2; have := HQ5.out; omega) (fun k hk _ hc => by have h9 := (HTB.out k hc).2; have := HBW.out; omega))
      have HB8 : Hid (Below w.heap.size w w8) := Lib.hid (HB7.out.trans (ht8.below (fun k hk => by
          rcases (HTB.out k hk).1 with h8 | h8
          · exact HTR.out.newT k h8
          · have := HTR.out.below.size; omega) HB7.out.size))
      have HSM2 := Lib.hid (same5_any HJ8.out HFB.out.see HEA.out (Nat.le_trans (headS_le C) (by omega)) HRL.out (fun l hl => Nat.le_trans (recsOf_le C l hl) (by omega)))
      clear hj2 ht8
      go_wp2_with fail
      refine (HSM2.out).mono ?_
      rintro e w9 ⟨rfl, hb9⟩
      have HB9 := Lib.hid (HB8.out.trans (hb9.mono HB8.out.size))
      have HAW := Lib.hid (awake5 (HG.out.below HB9.out) (HM.out.below HB9.out))
      clear hb9
      go_wp2_with fail
      refine (HAW.out).mono ?_
      rintro e w10 ⟨rfl, hb10⟩
      have HB10 := Lib.hid (HB9.out.trans (hb10.mono HB9.out.size))
      clear hb10
      go_wp2_with fail
      go_ret
      exact ⟨rfl, HB10.out⟩
end Go.Proofs.YtnegnokielmgkaaGreatDoor
