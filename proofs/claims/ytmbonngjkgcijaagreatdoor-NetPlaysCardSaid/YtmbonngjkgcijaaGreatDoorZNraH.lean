/- The document's own net in memory: Does (Spoil). (gennrah.py wrote it.) A net and the document's own, side by side. -/
import Derived.Test.YtmbonngjkgcijaaGreatDoorZNraG
import Derived.Test.YtmbonngjkgcijaaGreatDoorZNetAA
import Derived.Test.YtmbonngjkgcijaaGreatDoorZNraD
import Derived.Test.YtmbonngjkgcijaaGreatDoorZNraF
set_option linter.unusedSimpArgs false
set_option linter.unusedVariables false
set_option linter.unnecessarySimpa false
namespace Go.Proofs.YtmbonngjkgcijaaGreatDoor
open Go.RowKit Go.Shelf
section
variable {w : World} {r : Nat} {v : Value} {most : Int} {ct : Nat → Bool}
theorem own_empty (w : World) : OwnBy (w.alloc (.cells #[] 5)) w.heap.size (.slice (some ⟨w.heap.size, 0, none⟩) 0 0) [] :=
  .inr ⟨_, 0, rfl, ⟨Nat.le_refl _, by rw [asz]; exact Nat.lt_succ_self _, Nat.le_refl _, by unfold maxLen; omega, fun j b h => by simp at h, fun j h => by omega⟩⟩
/-- What Spoil leaves of the document's net: the packet with one bit turned, its bytes in new blocks. -/
def RSpoil (w : World) (r : Nat) (most : Int) (L : List RP) (ct : Nat → Bool) (j : Nat) (x : RP) (k : Nat) (w' : World) : Prop := ∃ g c, OwnC w' w.heap.size g c (spoilB x.bs k) ∧ RPost w r most ((L.eraseIdx j).insertIdx j ⟨spoilB x.bs k, x.site, x.waits, some ⟨g, 0, none⟩, c⟩) ct w'
set_option maxRecDepth 100000 in
set_option maxHeartbeats 4000000 in
theorem rnspoil_ok {L : List RP} (h : RNt w r v most L ct) (hl : L.length ≤ 1900) {j k : Nat} {x : RP} (hj : L[j]? = some x) (hk : k < 8 * x.bs.length) (hlen : x.bs.length ≤ 20000) (hby : BIs w x.v x.bs) :
    Calls Tryz.prog 51 #[.pointer (some ⟨r, 0, none⟩), .int .i64 4, .int .i64 j, .int .i64 k] w fun e w' => e = .returned (.int .i64 0) ∧ RSpoil w r most L ct j x k w' := by
  have hjl := (List.getElem?_eq_some_iff.1 hj).1
  have hb0 := below_new (w := w) (.cells x.a 102)
  obtain ⟨W0, hW0⟩ : ∃ W, W = w.alloc (.cells x.a 102) := ⟨_, rfl⟩
  have hat0 : W0.heap[w.heap.size]? = some (.cells x.a 102 (0, 0)) := by rw [hW0]; exact alloc_at _ _
  rw [← hW0] at hb0
  have hb1 := below_new (w := W0) (.cells #[] 5)
  have hown := own_empty W0
  obtain ⟨W1, hW1⟩ : ∃ W, W = W0.alloc (.cells #[] 5) := ⟨_, rfl⟩
  have hs1 : W1.heap.size = W0.heap.size + 1 := by rw [hW1, asz]
  rw [← hW1] at hb1 hown
  have hb01 : Below w.heap.size w W1 := hb0.trans (hb1.mono hb0.size)
  obtain ⟨v2, W2, hr2, ho2, hg2⟩ := run_append_by W1 W0.heap.size 54 54 _ [] x.bs x.v hown (hby.below hb01).src (by simp; omega) (by omega)
  rw [List.nil_append] at ho2
  have hne : x.bs ≠ [] := fun e => by rw [e] at hk; simp at hk
  obtain ⟨g1, c1, rfl, hc2⟩ : ∃ g1 c1, v2 = .slice (some ⟨g1, 0, none⟩) x.bs.length c1 ∧ OwnC W2 W0.heap.size g1 c1 x.bs := by
    rcases ho2 with ⟨_, e⟩ | h
    · exact (hne e).elim
    · exact h
  have hT12 : Touch (fun q => q = W0.heap.size) W1 W2 := (Touch.refl _ _).grown hg2 (fun q e _ => by simp [Value.ownBlock] at e; exact e.symm)
  have hw0 : w.heap.size < W0.heap.size := heap_lt hat0
  have hb02 : Below w.heap.size w W2 := hb01.trans (hT12.below (fun i e => by omega) hb01.size)
  have hat2 : W2.heap[w.heap.size]? = some (.cells x.a 102 (0, 0)) := (hT12.block _ (by omega) (by omega)).trans ((hb1.block _ hw0).trans hat0)
  -- the box with the new bytes
  have hT23 : Touch (fun q => q = w.heap.size) W2 (W2.setCell ⟨w.heap.size, 0, none⟩ (.slice (some ⟨g1, 0, none⟩) x.bs.length c1)) := (Touch.refl (fun q => q = w.heap.size) W2).setCell ⟨w.heap.size, 0, none⟩ (fun _ => rfl) _
  have hat3 := set_at hat2 0 (.slice (some ⟨g1, 0, none⟩) x.bs.length c1)
  obtain ⟨W3, hW3⟩ : ∃ W, W = W2.setCell ⟨w.heap.size, 0, none⟩ (.slice (some ⟨g1, 0, none⟩) x.bs.length c1) := ⟨_, rfl⟩
  rw [← hW3] at hT23 hat3
  have hg1 : w.heap.size < g1 := Nat.lt_of_lt_of_le hw0 hc2.new
  have hc3 := hc2.keep hT23.size (hT23.block _ hc2.lt (by omega))
  have hk8 : k / 8 < x.bs.length := by omega
  obtain ⟨y, hy⟩ : ∃ y, x.bs[k / 8]? = some y := ⟨_, List.getElem?_eq_getElem hk8⟩
  have hsp : x.bs.set (k / 8) (flipU y (k % 8)) = spoilB x.bs k := by unfold spoilB; rw [hy]; rfl
  have hc4 := hc3.set hk8 (flipU y (k % 8))
  rw [hsp] at hc4
  have hcell := hc3.holds (k / 8) y hy
  have hfz := (hc3.there (k / 8) (Nat.lt_of_lt_of_le hk8 hc3.le)).2
  have hT34 : Touch (fun q => q = g1) W3 (W3.setCell ⟨g1, k / 8, none⟩ (.int .u8 ((flipU y (k % 8)).toNat : Int))) := (Touch.refl (fun q => q = g1) W3).setCell ⟨g1, k / 8, none⟩ (fun _ => rfl) _
  obtain ⟨W4, hW4⟩ : ∃ W, W = W3.setCell ⟨g1, k / 8, none⟩ (.int .u8 ((flipU y (k % 8)).toNat : Int)) := ⟨_, rfl⟩
  rw [← hW4] at hT34 hc4
  have hat4 := (hT34.block _ (heap_lt hat3) (by omega)).trans hat3
  have hb03 : Below w.heap.size w W3 := hb02.trans (hT23.below (fun i e => by omega) hb02.size)
  have hb04 : Below w.heap.size w W4 := hb03.trans (hT34.below (fun i e => by omega) hb03.size)
  have hr0 := heap_lt h.head
  have hTK := rntake_at (h.below hb04) (by omega) hj
  have hlen2 : (L.eraseIdx j).length = L.length - 1 := by rw [List.length_eraseIdx, if_pos hjl]
  have HPU : Hid (∀ W v', RNt W r v' most (L.eraseIdx j) ct → Calls Tryz.prog 96 #[.pointer (some ⟨r, 0, none⟩), .int .i64 j, .agg #[.slice (some ⟨g1, 0, none⟩) x.bs.length c1, .int .i64 x.site, .int .i64 x.waits]] W fun e w' => e = .returned (.tuple #[]) ∧ RPost W r most ((L.eraseIdx j).insertIdx j ⟨spoilB x.bs k, x.site, x.waits, some ⟨g1, 0, none⟩, c1⟩) ct w') := Lib.hid (fun W v' hW => by
    have := rnput_at hW (by rw [hlen2]; omega) (k := j) (by rw [hlen2]; omega) ⟨spoilB x.bs k, x.site, x.waits, some ⟨g1, 0, none⟩, c1⟩
    simp only [spoilB_len] at this
    exact this)
  have HFIN : Hid (∀ v2 W5 W6, RNt W5 r v2 most (L.eraseIdx j) ct → Touch (fun q => q = r) W4 W5 → (∀ q, v2.ownBlock = some q → W4.heap.size ≤ q) → RPost W5 r most ((L.eraseIdx j).insertIdx j ⟨spoilB x.bs k, x.site, x.waits, some ⟨g1, 0, none⟩, c1⟩) ct W6 → RSpoil w r most L ct j x k W6) := Lib.hid (fun v2 W5 W6 h1 h2 h3 h4 => by
    have hp := RPost.ahead hb04 (RPost.behind ⟨v2, h1, h2, h3⟩ (fun _ _ => h4))
    obtain ⟨v6, q1, q2, q3⟩ := h4
    have h5 := hc4.keep h2.size (h2.block _ hc4.lt (by omega))
    have h6 := h5.keep q2.size (q2.block _ h5.lt (by omega))
    exact ⟨g1, c1, ⟨Nat.le_trans hb0.size h6.new, h6.lt, h6.le, h6.max, h6.holds, h6.there⟩, hp⟩)
  obtain ⟨g, cp, rfl, e0, e1, e2⟩ := rp_cells h.row hj
  have kr : w.cell? ⟨r, 1, none⟩ = some (.slice (some ⟨g, 0, none⟩) L.length cp) := cell_of h.head 1
  unfold RP.v at e0 hr2
  have hq5 : IntKind.i64.wrap ((k : Int) / 8) = ((k / 8 : Nat) : Int) := by rw [IntWalk.i64_in _ (by omega)]; omega
  have hq9 : (k : Int) % 8 = ((k % 8 : Nat) : Int) := by omega
  have hfl := (flipU_ok y (k % 8) (by omega)).1
  have hr8 : k % 8 < 8 := by omega
  have hwr0 : IntKind.i64.wrap (8 * (x.bs.length : Int)) = 8 * (x.bs.length : Int) := IntWalk.i64_in _ (by omega)
  obtain ⟨n, hn⟩ : ∃ n, x.bs.length = n := ⟨_, rfl⟩
  have HX : Hid (x.a = #[.slice x.A n x.cap, .int .i64 x.site, .int .i64 x.waits] ∧ W3.heap[w.heap.size]? = some (.cells #[.slice (some ⟨g1, 0, none⟩) n c1, .int .i64 x.site, .int .i64 x.waits] 102 (0, 0)) ∧ W4.heap[w.heap.size]? = some (.cells #[.slice (some ⟨g1, 0, none⟩) n c1, .int .i64 x.site, .int .i64 x.waits] 102 (0, 0))) := Lib.hid (by rw [← hn]; exact ⟨rfl, hat3, hat4⟩)
  have HC1 : Hid ((W0.alloc (.cells #[] 5)).cell? ⟨w.heap.size, 0, none⟩ = some (.slice x.A x.bs.length x.cap)) := Lib.hid (by rw [← hW1]; exact cell_of ((hb1.block _ hw0).trans hat0) 0)
  have hne0 : ¬ (w.heap.size = W0.heap.size) := by omega
  have HA2 := Lib.hid (And.intro hat0 (And.intro hat2 (heap_lt hat2)))
  rw [hn] at HC1 hr2 hwr0 HPU e0 hW3 hk8 hTK hk
  rw [hW1] at hr2
  have HR2 := Lib.hid hr2
  have HTK := Lib.hid hTK
  have HW0 := Lib.hid hW0
  have HW1 := Lib.hid hW1
  have HW3 := Lib.hid hW3
  have HW4 := Lib.hid hW4
  have HR0 := Lib.hid hr0
  have HB4 := Lib.hid (And.intro hb04.size hat4)
  have q1 : decide ((j : Int) < 0) = false := decide_eq_false (by omega)
  have q2 : decide ((j : Int) ≥ (L.length : Int)) = false := decide_eq_false (by omega)
  have q3 : (j : Int) < (L.length : Int) := by omega
  have q4 : decide ((k : Int) < 0) = false := decide_eq_false (by omega)
  have q5 : decide ((k : Int) ≥ 8 * (n : Int)) = false := decide_eq_false (by omega)
  have q6 : ¬ 8 * (n : Int) ≤ (k : Int) := by omega
  generalize k / 8 = kq at *
  generalize k % 8 = kr8 at *
  have q8 : (kq : Int) < (n : Int) := by omega
  clear h hb0 hat0 hb1 hown hs1 hb01 ho2 hne hc2 hT12 hw0 hb02 hat2 hT23 hat3 hg1 hc3 hy hsp hc4 hT34 hat4 hb03 hb04 hr0 hTK hlen2 hlen hby hr2 hW0 hW1 hW3 hW4 hn hl hjl hg2 hk
  go_enter Tryz.func51, Tryz.ntmps51
  go_upto_region 4 with fail
  change Code.wp _ _ _ _ (World.alloc w (.cells #[.slice x.A n x.cap, .int .i64 x.site, .int .i64 x.waits] 102))
  rw [← HX.out.1, ← HW0.out]
  clear e0 e1 e2 kr
  have c0 : W0.cell? ⟨w.heap.size, 0, none⟩ = some (.slice x.A n x.cap) := by have := cell_of HA2.out.1 0; rw [HX.out.1] at this; exact this
  go_upto_region 26 with fail
  have c1 := HC1.out
  have d0 : W2.cell? ⟨w.heap.size, 0, none⟩ = some (.slice x.A n x.cap) := by have := cell_of HA2.out.2.1 0; rw [HX.out.1] at this; exact this
  have f0 := free0 HA2.out.2.1 0
  go_upto_region 27 with (at_builtin; refine wpList_app_run rfl _ _ _ _ rfl rfl rfl HR2.out ?_)
  rw [← HW3.out]
  clear c0 c1 d0 f0
  have b0 : W3.cell? ⟨w.heap.size, 0, none⟩ = some (.slice (some ⟨g1, 0, none⟩) n c1) := cell_of HX.out.2.1 0
  go_upto_region 28 with fail
  rw [← HW4.out]
  clear b0 hcell hfz
  go_wp2_with fail
  refine (HTK.out).mono ?_
  rintro e w5 ⟨rfl, v2, hn2, ht2, hv2⟩
  have hat5 := (ht2.block _ (heap_lt HX.out.2.2) (by have := HR0.out; omega)).trans HX.out.2.2
  have d0 : w5.cell? ⟨w.heap.size, 0, none⟩ = some (.slice (some ⟨g1, 0, none⟩) n c1) := cell_of hat5 0
  have d1 : w5.cell? ⟨w.heap.size, 1, none⟩ = some (.int .i64 x.site) := cell_of hat5 1
  have d2 : w5.cell? ⟨w.heap.size, 2, none⟩ = some (.int .i64 x.waits) := cell_of hat5 2
  have HP5 := Lib.hid (HPU.out w5 v2 hn2)
  have HF5 := Lib.hid (fun W6 h6 => HFIN.out v2 w5 W6 hn2 ht2 hv2 h6)
  clear hn2 ht2 hv2 hat5
  go_wp2_with fail
  refine (HP5.out).mono ?_
  rintro e w6 ⟨rfl, hp⟩
  have HF := Lib.hid (HF5.out w6 hp)
  clear hp d0 d1 d2
  go_wp2_with fail
  go_ret
  exact ⟨rfl, HF.out⟩
set_option maxRecDepth 100000 in
set_option maxHeartbeats 4000000 in
theorem rnspoil_arg {L : List RP} (h : RNt w r v most L ct) {j : Nat} {k : Int} {x : RP} (hj : L[j]? = some x) (hk : ¬ (0 ≤ k ∧ k < 8 * (x.bs.length : Int))) (hlen : x.bs.length ≤ 20000) :
    Calls Tryz.prog 51 #[.pointer (some ⟨r, 0, none⟩), .int .i64 4, .int .i64 j, .int .i64 k] w fun e w' => e = .returned (.int .i64 2) ∧ Below w.heap.size w w' := by
  have hjl := (List.getElem?_eq_some_iff.1 hj).1
  have hb0 := below_new (w := w) (.cells x.a 102)
  obtain ⟨W0, hW0⟩ : ∃ W, W = w.alloc (.cells x.a 102) := ⟨_, rfl⟩
  have hat0 : W0.heap[w.heap.size]? = some (.cells x.a 102 (0, 0)) := by rw [hW0]; exact alloc_at _ _
  rw [← hW0] at hb0
  obtain ⟨g, cp, rfl, e0, e1, e2⟩ := rp_cells h.row hj
  have kr : w.cell? ⟨r, 1, none⟩ = some (.slice (some ⟨g, 0, none⟩) L.length cp) := cell_of h.head 1
  unfold RP.v at e0
  have HW0 := Lib.hid hW0
  have HB0 := Lib.hid hb0
  have c0 : W0.cell? ⟨w.heap.size, 0, none⟩ = some (.slice x.A x.bs.length x.cap) := cell_of hat0 0
  have HC0 := Lib.hid c0
  have hwr0 : IntKind.i64.wrap (8 * (x.bs.length : Int)) = 8 * (x.bs.length : Int) := IntWalk.i64_in _ (by omega)
  have q1 : decide ((j : Int) < 0) = false := decide_eq_false (by omega)
  have q2 : decide ((j : Int) ≥ (L.length : Int)) = false := decide_eq_false (by omega)
  have q3 : (j : Int) < (L.length : Int) := by omega
  have hcs : (k < 0) ∨ (¬ k < 0 ∧ 8 * (x.bs.length : Int) ≤ k) := by omega
  clear h hb0 hat0 hW0 hjl hk c0 hlen
  rcases hcs with hlt | ⟨hnl, hge⟩
  · have q4 : decide (k < 0) = true := decide_eq_true hlt
    clear hlt
    go_enter Tryz.func51, Tryz.ntmps51
    go_upto_region 4 with fail
    change Code.wp _ _ _ _ (World.alloc w (.cells x.a 102))
    rw [← HW0.out]
    clear e0 e1 e2 kr
    go_wp2_with fail
    go_ret
    exact ⟨rfl, HB0.out⟩
  · have q4 : decide (k < 0) = false := decide_eq_false hnl
    have q5 : decide (k ≥ 8 * (x.bs.length : Int)) = true := decide_eq_true hge
    go_enter Tryz.func51, Tryz.ntmps51
    go_upto_region 4 with fail
    change Code.wp _ _ _ _ (World.alloc w (.cells x.a 102))
    rw [← HW0.out]
    clear e0 e1 e2 kr
    have c0 := HC0.out
    go_wp2_with fail
    go_ret
    exact ⟨rfl, HB0.out⟩
end
end Go.Proofs.YtmbonngjkgcijaaGreatDoor

namespace Go.Proofs.YtmbonngjkgcijaaGreatDoor
open Go.RowKit Go.Shelf
/-- What may change while the document's packets stay readable. -/
def NpT (w0 : World) (F : Nat → Prop) (r : Nat) (v : Value) (k : Nat) : Prop := (w0.heap.size ≤ k ∧ ¬ F k) ∨ k = r ∨ v.ownBlock = some k
/-- The net (packets P, sites C cut off) and the document's own (packets Q, ct), made since w0; F: blocks that are none of the net's. -/
structure NPF (w0 w : World) (b r : Nat) (most : Int) (P : List P3) (C : List Int) (Q : List RP) (ct : Nat → Bool) (v : Value) (F : Nat → Prop) : Prop where
  net : NC w0 w b most P C F
  ref : RNt w r v most Q ct
  inr : F r ∧ w0.heap.size ≤ r
  own : ∀ k, v.ownBlock = some k → F k ∧ w0.heap.size ≤ k
  by_ : ∀ x ∈ Q, ∀ W, Touch (NpT w0 F r v) w W → BIs W x.v x.bs
section
variable {w0 w w' : World} {b r : Nat} {most : Int} {P P' : List P3} {C C' : List Int} {Q Q' : List RP} {ct ct' : Nat → Bool} {v : Value} {F : Nat → Prop}
/-- A call of the net. -/
theorem NPF.call (h : NPF w0 w b r most P C Q ct v F) (hn : NCP w0 w b most P' C' F w') : NPF w0 w' b r most P' C' Q ct v F where
  net := hn.1
  ref := h.ref.touch hn.2 (fun e => e.2 h.inr.1) (fun g hg e => e.2 (h.own g hg).1)
  inr := h.inr
  own := h.own
  by_ := fun x hx W hW => h.by_ x hx W ((hn.2.mono (fun k _ e => Or.inl e)).trans hW (fun _ _ e => e))
/-- The net beside what changes blocks of F alone, and makes new ones. -/
theorem NC.other (h : NC w0 w b most P C F) {S : Nat → Prop} {W1 : World} (hT : Touch S w W1) (hS : ∀ k, S k → F k ∧ w0.heap.size ≤ k) : NC w0 W1 b most P C (fun k => F k ∨ (w.heap.size ≤ k ∧ k < W1.heap.size)) := by
  obtain ⟨v, ro, L, mp, E, c, h1, h2, hke, h3, h4, h5⟩ := h
  refine ⟨v, ro, L, mp, E, c, h1.keep hT (fun k e => ?_), h2, hke, fun k hk => ⟨(h3 k hk).1, fun e => ?_⟩, h4.trans (hT.below (fun i e => (hS i e).2) h4.size), fun k hk => ?_⟩
  · by_cases q : ro k = 0
    · exact q
    · exact ((h3 k q).2 (hS k e).1).elim
  · rcases e with e | e
    · exact (h3 k hk).2 e
    · have := h1.lt k hk; omega
  · rcases hk with e | e
    · exact Nat.lt_of_lt_of_le (h5 k e) hT.size
    · exact e.2
theorem NPF.more (h : NPF w0 w b r most P C Q ct v F) (hb : Below w.heap.size w w') : NPF w0 w' b r most P C Q ct v (fun k => F k ∨ (w.heap.size ≤ k ∧ k < w'.heap.size)) where
  net := h.net.add hb
  ref := h.ref.below hb
  inr := ⟨.inl h.inr.1, h.inr.2⟩
  own := fun k hk => ⟨.inl (h.own k hk).1, (h.own k hk).2⟩
  by_ := fun x hx W hW => h.by_ x hx W (((Touch.of_below hb : Touch (NpT w0 F r v) w w')).trans hW (fun k _ e => by
    rcases e with e | e
    · exact .inl ⟨e.1, fun q => e.2 (.inl q)⟩
    · exact .inr e))
/-- A call of the document's that gives its net another row of packets that were there. -/
theorem NPF.row (h : NPF w0 w b r most P C Q ct v F) (hp : RPost w r most Q' ct w') (hsub : ∀ y ∈ Q', ∃ x ∈ Q, y.v = x.v ∧ y.bs = x.bs) : ∃ v', NPF w0 w' b r most P C Q' ct v' (fun k => F k ∨ (w.heap.size ≤ k ∧ k < w'.heap.size)) := by
  obtain ⟨v', h1, hT, h3⟩ := hp
  have hn := h.net.other hT (fun k e => by rw [e]; exact h.inr)
  have hw0 := h.net.bel.size
  have hlt : ∀ k, v'.ownBlock = some k → k < w'.heap.size := fun k hk => by
    rcases h1.row with ⟨e, _⟩ | ⟨g, cap, e, _, _, hr⟩
    · rw [e] at hk; cases hk
    · rw [e] at hk; cases hk; exact hr.lt
  refine ⟨v', hn, h1, ⟨.inl h.inr.1, h.inr.2⟩, fun k hk => ⟨.inr ⟨h3 k hk, hlt k hk⟩, Nat.le_trans hw0 (h3 k hk)⟩, fun y hy W hW => ?_⟩
  obtain ⟨x, hx, e1, e2⟩ := hsub y hy
  rw [e1, e2]
  refine h.by_ x hx W ((hT.mono (fun k _ e => Or.inr (Or.inl e))).trans hW (fun k hk e => ?_))
  rcases e with e | e | e
  · exact .inl ⟨e.1, fun q => e.2 (.inl q)⟩
  · exact .inr (.inl e)
  · have := h3 k e; omega
theorem row_off_bytes {w : World} {v : Value} {Q : List RP} {base g c : Nat} {bs : List UInt8} (h : RowIs w 3 v Q.length (rpC Q)) (hq : Q ≠ []) (ho : OwnC w base g c bs) (hb : bs ≠ []) (e : v.ownBlock = some g) : False := by
  cases Q with
  | nil => exact hq rfl
  | cons x q =>
    cases bs with
    | nil => exact hb rfl
    | cons y ys =>
      obtain ⟨g', cp, ev, h0, _⟩ := rp_cells (j := 0) (x := x) h rfl
      have h1 := ho.holds 0 y rfl
      rw [ev] at e
      have hg : g' = g := by
        rcases h with ⟨e2, _⟩ | ⟨g2, cap2, e2, _, _, hr⟩
        · rw [e2] at ev; cases ev
        · rw [ev] at e2
          cases e2
          simp [Value.ownBlock] at e
          first | exact e.2 | exact e
      subst hg
      rw [Nat.zero_mul] at h0
      rw [h0] at h1
      cases h1
/-- And one packet more whose bytes lie in new blocks. -/
theorem NPF.rowNew (h : NPF w0 w b r most P C Q ct v F) (hp : RPost w r most Q' ct w') {z : RP} {g c : Nat} (hz : z.A = some ⟨g, 0, none⟩) (hzc : z.cap = c) (ho : OwnC w' w.heap.size g c z.bs) (hz0 : z.bs ≠ []) (hq0 : Q' ≠ []) (hsub : ∀ y ∈ Q', y = z ∨ ∃ x ∈ Q, y.v = x.v ∧ y.bs = x.bs) : ∃ v', NPF w0 w' b r most P C Q' ct v' (fun k => F k ∨ (w.heap.size ≤ k ∧ k < w'.heap.size)) := by
  obtain ⟨v', h1, hT, h3⟩ := hp
  have hn := h.net.other hT (fun k e => by rw [e]; exact h.inr)
  have hw0 := h.net.bel.size
  have hr := heap_lt h.ref.head
  have hlt : ∀ k, v'.ownBlock = some k → k < w'.heap.size := fun k hk => by
    rcases h1.row with ⟨e, _⟩ | ⟨g, cap, e, _, _, hr⟩
    · rw [e] at hk; cases hk
    · rw [e] at hk; cases hk; exact hr.lt
  refine ⟨v', hn, h1, ⟨.inl h.inr.1, h.inr.2⟩, fun k hk => ⟨.inr ⟨h3 k hk, hlt k hk⟩, Nat.le_trans hw0 (h3 k hk)⟩, fun y hy W hW => ?_⟩
  rcases hsub y hy with rfl | ⟨x, hx, e1, e2⟩
  · have hk := ho.keep hW.size (hW.block _ ho.lt (fun e => by
      rcases e with e | e | e
      · exact e.2 (.inr ⟨ho.new, ho.lt⟩)
      · have := ho.new; omega
      · exact row_off_bytes h1.row hq0 ho hz0 e))
    have hv : y.v = .slice (some ⟨g, 0, none⟩) y.bs.length c := by unfold RP.v; rw [hz, hzc]
    rw [hv]
    exact OwnBy.bis (.inr ⟨g, c, rfl, hk⟩)
  · rw [e1, e2]
    refine h.by_ x hx W ((hT.mono (fun k _ e => Or.inr (Or.inl e))).trans hW (fun k hk e => ?_))
    rcases e with e | e | e
    · exact .inl ⟨e.1, fun q => e.2 (.inl q)⟩
    · exact .inr (.inl e)
    · have := h3 k e; omega
/-- Part of the document's. -/
theorem NPF.part (h : NPF w0 w b r most P C Q ct v F) (h1 : RNt w' r v most Q ct') (hT : Touch (fun k => k = r) w w') : NPF w0 w' b r most P C Q ct' v F where
  net := h.net.keepF hT (fun k e => by rw [e]; exact h.inr)
  ref := h1
  inr := h.inr
  own := h.own
  by_ := fun x hx W hW => h.by_ x hx W ((hT.mono (fun k _ e => Or.inr (Or.inl e))).trans hW (fun _ _ e => e))
end
end Go.Proofs.YtmbonngjkgcijaaGreatDoor
