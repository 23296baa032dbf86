/- A law's own store; the chapter's example. -/
import Derived.Test.YtkkembbeejlomaaGreatDoorZPagT
import Derived.Test.YtkkembbeejlomaaGreatDoorZPagJ
set_option linter.unusedSimpArgs false
set_option linter.unusedVariables false
set_option linter.unnecessarySimpa false
namespace Go.Proofs.YtkkembbeejlomaaGreatDoor
open Go.RowKit Go.Shelf Go.Sort Go.Lib

/-- A law's own store, since w0. -/
structure Sr (w0 w : World) (s most : Nat) (P : List (List Row)) : Prop where
  st : ∃ v L, St w s most v L P ∧ ∀ k, Owns s v L k → w0.heap.size ≤ k
  below : Below w0.heap.size w0 w
  glob : Glob w0
  fine : Fine most P
section
variable {w0 w w' : World} {s most : Nat} {P : List (List Row)} {k : K} {n : Int}
theorem Sr.keep (h : Sr w0 w s most P) (hb : Below w.heap.size w w') : Sr w0 w' s most P := by
  obtain ⟨v, L, h1, h2⟩ := h.st
  exact ⟨⟨v, L, h1.below hb, h2⟩, h.below.trans (hb.mono h.below.size), h.glob, h.fine⟩
theorem Sr.post {P' : List (List Row)} {v : Value} {L : List Pl} (h : Sr w0 w s most P) (ho : ∀ k, Owns s v L k → w0.heap.size ≤ k) (hp : StPost w s most v L P' w') (hF : Fine most P') : Sr w0 w' s most P' := by
  obtain ⟨v2, L2, h1, h2, h3⟩ := hp
  have hs := h.below.size
  exact ⟨⟨v2, L2, h1, fun k hk => (h3 k hk).elim (ho k) (fun e => by omega)⟩, h.below.trans (h2.below (fun i e => ho i e) hs), h.glob, hF⟩
theorem Sr.put (h : Sr w0 w s most P) (hk : k.length ≤ maxLen) :
    Calls Tryz.prog 16 #[.pointer (some ⟨s, 0, none⟩), strV k, .int .i64 n] w fun e w' => e = .returned (.int .i64 (putP most P ⟨k, n⟩).2) ∧ Sr w0 w' s most (putP most P ⟨k, n⟩).1 := by
  obtain ⟨v, L, h1, h2⟩ := h.st
  refine (Put_any h1 h.fine hk (h.glob.below h.below) (fun e => by have := h2 _ e; have := h.glob.lt; omega)).mono ?_
  rintro e w' ⟨rfl, hp⟩
  exact ⟨rfl, h.post h2 hp (fine_put h.fine _)⟩
theorem Sr.del (h : Sr w0 w s most P) (hF : Fine most (delP most P k).1) :
    Calls Tryz.prog 18 #[.pointer (some ⟨s, 0, none⟩), strV k] w fun e w' => e = .returned (.bool (delP most P k).2) ∧ Sr w0 w' s most (delP most P k).1 := by
  obtain ⟨v, L, h1, h2⟩ := h.st
  refine (Del_any h1 h.fine).mono ?_
  rintro e w' ⟨rfl, hp⟩
  exact ⟨rfl, h.post h2 hp hF⟩
theorem Sr.get (h : Sr w0 w s most P) :
    Calls Tryz.prog 19 #[.pointer (some ⟨s, 0, none⟩), strV k] w fun e w' => e = .returned (.tuple #[.int .i64 (getP P k).1, .bool (getP P k).2]) ∧ Below w.heap.size w w' := by
  obtain ⟨v, L, h1, h2⟩ := h.st
  exact Get_any h1 h.fine
theorem Sr.len (h : Sr w0 w s most P) :
    Calls Tryz.prog 20 #[.pointer (some ⟨s, 0, none⟩)] w fun e w' => e = .returned (.int .i64 P.flatten.length) ∧ Below w.heap.size w w' := by
  obtain ⟨v, L, h1, h2⟩ := h.st
  exact Len_any h1 (by have := h.fine.total; omega)
theorem Sr.pages (h : Sr w0 w s most P) :
    Calls Tryz.prog 17 #[.pointer (some ⟨s, 0, none⟩)] w fun e w' => ∃ v', e = .returned v' ∧ PgsIs w' w.heap.size v' P ∧ Below w.heap.size w w' := by
  obtain ⟨v, L, h1, h2⟩ := h.st
  exact Pages_any h1 h.fine
end
theorem sr_new {w : World} (hG : Glob w) {most : Nat} (hm : 2 ≤ most ∧ most ≤ 64) :
    Calls Tryz.prog 5 #[.int .i64 most] w fun e w' => ∃ s, e = .returned (.tuple #[.pointer (some ⟨s, 0, none⟩), .int .i64 0]) ∧ Sr w w' s most [] := by
  refine (New_any hG hm).mono ?_
  rintro e w' ⟨s, rfl, h1, h2, h3⟩
  refine ⟨s, rfl, ⟨_, _, h1, fun k hk => ?_⟩, h2, hG, ⟨(fun p hp => by cases hp), (fun p hp => by cases hp), List.Pairwise.nil, (by simp), hm⟩⟩
  rcases hk with rfl | hk | ⟨a, ha, _⟩
  · exact h3
  · cases hk
  · cases ha
/-! The chapter's example, in plain words. -/
def kA : K := [97]
def kB : K := [98]
def kC : K := [99]
def kAA : K := [97, 97]
def P1 : List (List Row) := [[⟨kA, 1⟩]]
def P2 : List (List Row) := [[⟨kA, 1⟩, ⟨kB, 2⟩]]
def P3 : List (List Row) := [[⟨kA, 1⟩], [⟨kB, 2⟩, ⟨kC, 3⟩]]
def P4 : List (List Row) := [[⟨kB, 2⟩, ⟨kC, 3⟩]]
def P5 : List (List Row) := [[⟨kAA, 4⟩], [⟨kB, 2⟩, ⟨kC, 3⟩]]
theorem ex1 : putP 2 [] ⟨kA, 1⟩ = (P1, 0) := by decide +kernel
theorem ex2 : putP 2 P1 ⟨kB, 2⟩ = (P2, 0) := by decide +kernel
theorem ex3 : putP 2 P2 ⟨kC, 3⟩ = (P3, 0) := by decide +kernel
theorem ex4 : delP 2 P3 kA = (P4, true) := by decide +kernel
theorem ex5 : putP 2 P4 ⟨kAA, 4⟩ = (P5, 0) := by decide +kernel
theorem ex6 : getP P5 kC = (3, true) := by decide +kernel
theorem fine4 : Fine 2 P4 := ⟨by decide +kernel, by decide +kernel, by unfold Rise; decide +kernel, by decide +kernel, by decide⟩
/-- A page of such a list. -/
theorem PgsIs.page {w : World} {B : Nat} {v : Value} {P : List (List Row)} (h : PgsIs w B v P) {i : Nat} {p : List Row} (hp : P[i]? = some p) : ∃ g c A' c', v = .slice (some ⟨g, 0, none⟩) P.length c ∧ P.length ≤ c ∧ c ≤ maxLen ∧ w.cell? ⟨g, i, none⟩ = some (.slice A' p.length c') ∧ RowIs w 2 (.slice A' p.length c') p.length (pgC p) := by
  obtain ⟨A, c, us, rfl, hr, _, h3⟩ := h
  obtain ⟨A', c', h4, h5, _⟩ := h3 i p hp
  obtain ⟨A2, c2, e, h6, h7, _, _, h8⟩ := hr.form
  injection e with e1 _ e3
  subst e1 e3
  obtain ⟨g, rfl, h9⟩ := h8 i _ h4
  exact ⟨g, c, A', c', rfl, h6, h7, h9, h5⟩
set_option maxRecDepth 100000 in
set_option maxHeartbeats 4000000 in
theorem awake_any {w : World} (hG : Glob w) : Calls Tryz.prog 6 #[] w fun e w' => e = .returned (.bool true) ∧ Below w.heap.size w w' := by
  have HN := Lib.hid (sr_new hG (most := 2) (by omega))
  clear hG
  go_enter Tryz.func6, Tryz.ntmps6
  go_wp2_with fail
  refine (HN.out).mono ?_
  rintro e w1 ⟨s, rfl, h1⟩
  have H1 := Lib.hid (h1.put (k := kA) (n := 1) (by unfold maxLen; decide))
  rw [ex1] at H1
  simp only [strV] at H1
  clear h1 HN
  go_wp2_with fail
  refine (H1.out).mono ?_
  rintro e w2 ⟨rfl, h2⟩
  have H2 := Lib.hid (h2.put (k := kB) (n := 2) (by unfold maxLen; decide))
  rw [ex2] at H2
  simp only [strV] at H2
  clear h2 H1
  go_wp2_with fail
  refine (H2.out).mono ?_
  rintro e w3 ⟨rfl, h3⟩
  have H3 := Lib.hid (h3.put (k := kC) (n := 3) (by unfold maxLen; decide))
  rw [ex3] at H3
  simp only [strV] at H3
  clear h3 H2
  go_wp2_with fail
  refine (H3.out).mono ?_
  rintro e w4 ⟨rfl, h4⟩
  have HPG := Lib.hid h4.pages
  have H4 := Lib.hid h4
  clear h4 H3
  go_wp2_with fail
  refine (HPG.out).mono ?_
  rintro e w5 ⟨pv, rfl, hpg, hb5⟩
  obtain ⟨g, c, A', c', rfl, hc1, hc2, k1, _⟩ := hpg.page (i := 1) (p := [⟨kB, 2⟩, ⟨kC, 3⟩]) rfl
  have h5 := H4.out.keep hb5
  have hl3 : P3.length = 2 := rfl
  have hl2 : ([⟨kB, 2⟩, ⟨kC, 3⟩] : List Row).length = 2 := rfl
  rw [hl3] at hc1 ⊢
  rw [hl2] at k1
  have H5 := Lib.hid (h5.del (k := kA) (by rw [ex4]; exact fine4))
  rw [ex4] at H5
  simp only [strV] at H5
  clear h5 H4 HPG hpg hb5
  go_wp2_with fail
  refine (H5.out).mono ?_
  rintro e w6 ⟨rfl, h6⟩
  have H6 := Lib.hid (h6.put (k := kAA) (n := 4) (by unfold maxLen; decide))
  rw [ex5] at H6
  simp only [strV] at H6
  clear h6 H5 k1
  go_wp2_with fail
  refine (H6.out).mono ?_
  rintro e w7 ⟨rfl, h7⟩
  have HPG := Lib.hid h7.pages
  have H7 := Lib.hid h7
  clear h7 H6
  go_wp2_with fail
  refine (HPG.out).mono ?_
  rintro e w8 ⟨pv, rfl, hpg, hb8⟩
  obtain ⟨g2, c2, A2, c2', rfl, hd1, hd2, k1, hr2⟩ := hpg.page (i := 0) (p := [⟨kAA, 4⟩]) rfl
  have hl5 : P5.length = 2 := rfl
  have hl1 : ([⟨kAA, 4⟩] : List Row).length = 1 := rfl
  rw [hl5] at hd1 ⊢
  rw [hl1] at k1 hr2
  obtain ⟨A3, c3, ev, _, _, _, _, hj⟩ := hr2.form
  injection ev with ev1 _ ev3
  subst ev1 ev3
  obtain ⟨g3, rfl, k2⟩ := hj 0 _ rfl
  have HK : Hid (∀ W, Below w8.heap.size w8 W → W.cell? ⟨g2, 0, none⟩ = some (.slice (some ⟨g3, 0, none⟩) 1 c2') ∧ W.cell? ⟨g3, 0, none⟩ = some (.string ⟨#[97, 97]⟩)) := Lib.hid (fun W hW => ⟨(hW.cell (p := ⟨g2, 0, none⟩) (World.block_lt_of_cell? _ _ k1)).trans k1, (hW.cell (p := ⟨g3, 0, none⟩) (World.block_lt_of_cell? _ _ k2)).trans k2⟩)
  have H8 := Lib.hid (H7.out.keep hb8)
  have HGT := Lib.hid (H8.out.get (k := kC))
  rw [ex6] at HGT
  simp only [strV] at HGT
  clear H7 HPG hpg hb8 k1 k2 hr2 hj
  go_wp2_with fail
  refine (HGT.out).mono ?_
  rintro e w9 ⟨rfl, hb9⟩
  have HLE := Lib.hid (fun W (hW : Below w8.heap.size w8 W) => (H8.out.keep hW).len)
  obtain ⟨k1, k2⟩ := HK.out _ hb9
  have HB9 := Lib.hid hb9
  clear hb9 HGT
  go_wp2_with fail
  refine (HLE.out _ HB9.out).mono ?_
  rintro e w10 ⟨rfl, hb10⟩
  rw [show ((P5.flatten.length : Nat) : Int) = 3 from rfl]
  have HF := Lib.hid (H8.out.below.trans ((HB9.out.trans (hb10.mono HB9.out.size)).mono H8.out.below.size))
  clear hb10 HLE
  go_wp2_with fail
  go_ret
  exact ⟨by simp, HF.out⟩
end Go.Proofs.YtkkembbeejlomaaGreatDoor
