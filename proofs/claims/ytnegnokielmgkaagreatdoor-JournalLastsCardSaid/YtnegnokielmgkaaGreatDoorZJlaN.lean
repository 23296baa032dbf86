/- JournalLasts: the law's calls, each with power or without. JournalLasts: what the law's loop holds. JournalLasts: from one call of the law to the next. JournalLasts: behind the law's loop. JournalLasts: the law's lists as they are compared at its end. -/
import Derived.Test.YtnegnokielmgkaaGreatDoorZJlaG
set_option linter.unusedSimpArgs false
set_option linter.unusedVariables false
set_option linter.unnecessarySimpa false
namespace Go.Proofs.YtnegnokielmgkaaGreatDoor
open Go.RowKit

theorem some_frs (ls : List (List UInt8)) : (frs ((someB ls).map (0 :: ·))).length ≤ 272 := by
  have := frames_some ls
  rwa [framesB_frs] at this
theorem some_16 (ls : List (List UInt8)) : ∀ l ∈ someB ls, l.length ≤ 16383 := fun l hl => by
  have := someB_le ls l hl
  omega
/-- A journal with power behind k calls, and blocks D beside it. -/
structure Up (w0 w : World) (D : Nat → Prop) (j t n k : Nat) (st : List UInt8) (als sus : List (List UInt8)) (J : Js) : Prop where
  awd : JAwd w0 w D j t J
  live : LiveP J.p k (k * 272) st als sus
  fits : Fits J.p
  seg : J.seg = n
  len : J.rs.length ≤ k * 4
/-- A journal whose power failed; what is opened behind a crash. -/
structure Dn (w0 w : World) (D : Nat → Prop) (j t n k : Nat) (J : Js) : Prop where
  awd : JAwd w0 w D j t J
  down : J.p.down = true
  fits : Fits J.p
  seg : J.seg = n
  len : J.rs.length ≤ k * 4
section
variable {w0 w : World} {D : Nat → Prop} {j t n k base : Nat} {st : List UInt8} {als sus ls : List (List UInt8)} {J : Js} {v : Value} {xs : List Value}
theorem Up.keep {w' : World} (h : Up w0 w D j t n k st als sus J) (hb : Below w.heap.size w w') : Up w0 w' D j t n k st als sus J := ⟨h.awd.keep hb, h.live, h.fits, h.seg, h.len⟩
theorem Up.next (h : Up w0 w D j t n k st als sus J) : Up w0 w D j t n (k + 1) st als sus J := ⟨h.awd, h.live.mono (by omega) (by omega), h.fits, h.seg, by have := h.len; omega⟩
theorem some_form (ho : OwnS w base v xs) (hx : OldB w0 xs (someB ls)) : ∃ A c, v = .slice A (someB ls).length c := by
  obtain ⟨A, c, rfl, _⟩ := ho.vis
  exact ⟨A, c, by rw [hx.1]⟩
theorem las_append (h : Up w0 w D j t n k st als sus J) (hk : k ≤ 40) (ho : OwnS w base v xs) (hD : ∀ g, v.ownBlock = some g → D g) (hx : OldB w0 xs (someB ls)) : Calls Tryz.prog 31 #[.pointer (some ⟨j, 0, none⟩), v] w fun e w' => KeptD w0 w D w' ∧ ((e = .returned (.int .i64 0) ∧ ∃ J', Up w0 w' D j t n (k + 1) st (als ++ someB ls) sus J') ∨ (e = .returned (.int .i64 8) ∧ ∃ J', Dn w0 w' D j t n (k + 1) J' ∧ Opens J'.p.A st sus als)) := by
  obtain ⟨A, c, rfl⟩ := some_form ho hx
  have h1 := some_frs ls
  have h2 := someB_len ls
  refine (jad_append h.awd (fun w' hw => pis_keptD h.awd.below ho hD hx hw) (by omega) (by have := h.len; omega)).mono fun e w' ⟨e1, k1, k2⟩ => ⟨k2, ?_⟩
  have hf := h.fits.add (someB ls)
  have hln := h.len
  rcases add_up h.live (by omega) (some_16 ls) (by omega) with ⟨q1, q2, q3, q4⟩ | ⟨q1, q2, q3, q4, q5⟩
  · refine .inl ⟨by rw [e1, q1], _, k1, q2.mono (by omega) (by omega), hf, q3.trans h.seg, ?_⟩
    rw [q4, List.length_append]
    omega
  · refine .inr ⟨by rw [e1, q1], _, ⟨k1, q2, hf, q4.trans h.seg, ?_⟩, q3.opens⟩
    rw [q5]
    omega
theorem las_write (h : Up w0 w D j t n k st als sus J) (hk : k ≤ 40) (ho : OwnS w base v xs) (hD : ∀ g, v.ownBlock = some g → D g) (hx : OldB w0 xs (someB ls)) : Calls Tryz.prog 32 #[.pointer (some ⟨j, 0, none⟩), v] w fun e w' => KeptD w0 w D w' ∧ ((e = .returned (.int .i64 0) ∧ ∃ J', Up w0 w' D j t n (k + 1) st (als ++ someB ls) (als ++ someB ls) J') ∨ (e = .returned (.int .i64 8) ∧ ∃ J', Dn w0 w' D j t n (k + 1) J' ∧ Opens J'.p.A st sus (als ++ someB ls))) := by
  obtain ⟨A, c, rfl⟩ := some_form ho hx
  have h1 := some_frs ls
  have h2 := someB_len ls
  refine (jad_write h.awd (fun w' hw => pis_keptD h.awd.below ho hD hx hw) (by omega) (by have := h.len; omega)).mono fun e w' ⟨e1, k1, k2⟩ => ⟨k2, ?_⟩
  have hf := h.fits.write (someB ls)
  have hln := h.len
  have hrs : (writeP J (someB ls)).2.rs.length ≤ (k + 1) * 4 := by
    unfold writeP
    rcases add_up h.live (by omega) (some_16 ls) (by omega) with ⟨q1, q2, q3, q4⟩ | ⟨q1, q2, q3, q4, q5⟩
    · rw [if_neg (by rw [q1]; simp)]
      show (addP J (someB ls)).2.rs.length ≤ _
      rw [q4, List.length_append]
      omega
    · rw [if_pos (by rw [q1]; decide), q5]
      omega
  rcases write_up h.live (by omega) (some_16 ls) (by omega) with ⟨q1, q2, q3, q4⟩ | ⟨q1, q2, q3, all', q4, q5⟩
  · exact .inl ⟨by rw [e1, q1], _, k1, q2.mono (by omega) (by omega), hf, q3.trans h.seg, hrs⟩
  · refine .inr ⟨by rw [e1, q1], _, ⟨k1, q2, hf, q3.trans h.seg, hrs⟩, fun room seg ks => ?_⟩
    obtain ⟨p2, rs, g1, g2, g3⟩ := q4.opens room seg ks
    exact ⟨p2, rs, g1, g2, g3.trans q5⟩
theorem las_sync (h : Up w0 w D j t n k st als sus J) (hk : k ≤ 40) : Calls Tryz.prog 33 #[.pointer (some ⟨j, 0, none⟩)] w fun e w' => KeptD w0 w D w' ∧ ((e = .returned (.int .i64 0) ∧ ∃ J', Up w0 w' D j t n (k + 1) st als als J') ∨ (e = .returned (.int .i64 8) ∧ ∃ J', Dn w0 w' D j t n (k + 1) J' ∧ Opens J'.p.A st sus als)) := by
  refine (jad_sync h.awd).mono fun e w' ⟨e1, k1, k2⟩ => ⟨k2, ?_⟩
  have hf := h.fits.sync
  have hln := h.len
  rcases syncj_up h.live (by omega) with ⟨q1, q2, q3, q4⟩ | ⟨q1, q2, q3, q4, q5⟩
  · exact .inl ⟨by rw [e1, q1], _, k1, q2.mono (by omega) (by omega), hf, q3.trans h.seg, by rw [q4]; omega⟩
  · exact .inr ⟨by rw [e1, q1], _, ⟨k1, q2, hf, q4.trans h.seg, by rw [q5]; omega⟩, q3.opens⟩
theorem las_save (h : Up w0 w D j t n k st als sus J) (hk : k ≤ 40) (hx : OldB w0 xs (someB ls)) : Calls Tryz.prog 34 #[.pointer (some ⟨j, 0, none⟩), headV xs] w fun e w' => KeptD w0 w D w' ∧ ((e = .returned (.int .i64 0) ∧ ∃ J', Up w0 w' D j t n (k + 1) (firstB (someB ls)) [] [] J') ∨ (e = .returned (.int .i64 8) ∧ ∃ J', Dn w0 w' D j t n (k + 1) J' ∧ OpensOr J'.p.A st sus als (firstB (someB ls)))) := by
  have hfi := head_old hx
  have h1 := firstB_le ls
  have hb := h.awd.below
  generalize headV xs = v at hfi
  obtain ⟨A, c, rfl, _⟩ := id hfi
  refine (jad_save h.awd (fun w' ho => bis_old hfi (Nat.le_trans hb.size ho.1) (fun k hk => (ho.2 k (Nat.lt_of_lt_of_le hk hb.size) (.inl hk)).trans (hb.block k hk))) (by omega)).mono fun e w' ⟨e1, k1, k2⟩ => ⟨k2, ?_⟩
  have hf := h.fits.save (firstB (someB ls))
  have hln := h.len
  rcases save_up h.live (by omega) h1 (by omega) with ⟨q1, q2, q3, q4⟩ | ⟨q1, q2, q3, q4, q5⟩
  · exact .inl ⟨by rw [e1, q1], _, k1, q2.mono (by omega) (by omega), hf, q3.trans h.seg, by rw [q4]; exact Nat.zero_le _⟩
  · exact .inr ⟨by rw [e1, q1], _, ⟨k1, q2, hf, q3.trans h.seg, by omega⟩, q5⟩
end
end Go.Proofs.YtnegnokielmgkaaGreatDoor

namespace Go.Proofs.YtnegnokielmgkaaGreatDoor
open Go.RowKit

/-- The law's lists: all, which may grow in place, and sure. -/
structure Lists (w0 w : World) (D : Nat → Prop) (k : Nat) (suv alv : Value) (als sus : List (List UInt8)) : Prop where
  all : ∃ xa, OwnS w w0.heap.size alv xa ∧ OldB w0 xa als
  allD : ∀ g, alv.ownBlock = some g → D g
  allS : SlV w alv
  sure : ∃ xs, OwnS w w0.heap.size suv xs ∧ OldB w0 xs sus
  sureD : ∀ g, suv.ownBlock = some g → D g
  apart : ∀ g, suv.ownBlock = some g → alv.ownBlock ≠ some g
  lens : als.length ≤ k * 4 ∧ sus.length ≤ k * 4 ∧ ∀ l ∈ als, l.length ≤ 60
/-- Bytes that are not too many. -/
def BI60 (w : World) (v : Value) (l : List UInt8) : Prop := BIs w v l ∧ l.length ≤ 60
/-- What the law holds behind k of its calls. -/
def LasI (w0 w : World) (n k j t q : Nat) (stv suv alv sav : Value) (b : Bool) : Prop := ∃ (J : Js) (D : Nat → Prop) (st sv : List UInt8) (als sus : List (List UInt8)), D q ∧ w.cell? ⟨q, 1, none⟩ = some (.int .i64 (n : Int)) ∧ BI60 w0 stv st ∧ BI60 w0 sav sv ∧ Lists w0 w D k suv alv als sus ∧ ((b = false ∧ Up w0 w D j t n k st als sus J) ∨ (Dn w0 w D j t n k J ∧ ((b = false ∧ Opens J.p.A st sus als) ∨ (b = true ∧ OpensOr J.p.A st sus als sv))))
section
variable {w0 w w' : World} {D D' : Nat → Prop} {k j t q n : Nat} {suv alv stv sav : Value} {als sus : List (List UInt8)} {b : Bool} {J : Js}
/-- All but the lists' blocks may have changed. -/
theorem Lists.kept (h : Lists w0 w D k suv alv als sus) (hk : KeptD w0 w D w') : Lists w0 w' D k suv alv als sus := by
  obtain ⟨xa, a1, a2⟩ := h.all
  obtain ⟨xs, s1, s2⟩ := h.sure
  exact ⟨⟨xa, a1.keptD h.allD hk, a2⟩, h.allD, fun g hg => (h.allS g hg).keep (hk.2 g (a1.lt g hg).2 (.inr (h.allD g hg))), ⟨xs, s1.keptD h.sureD hk, s2⟩, h.sureD, h.apart, h.lens⟩
theorem KeptD.of_below (hb : Below w.heap.size w w') : KeptD w0 w D w' := ⟨hb.size, fun k hk _ => hb.block k hk⟩
theorem Lists.keep (h : Lists w0 w D k suv alv als sus) (hb : Below w.heap.size w w') : Lists w0 w' D k suv alv als sus := h.kept (.of_below hb)
theorem Lists.more (h : Lists w0 w D k suv alv als sus) (hD : ∀ g, D g → D' g) : Lists w0 w D' k suv alv als sus := ⟨h.all, fun g hg => hD g (h.allD g hg), h.allS, h.sure, fun g hg => hD g (h.sureD g hg), h.apart, h.lens⟩
theorem Lists.next (h : Lists w0 w D k suv alv als sus) : Lists w0 w D (k + 1) suv alv als sus := ⟨h.all, h.allD, h.allS, h.sure, h.sureD, h.apart, ⟨by have := h.lens.1; omega, by have := h.lens.2.1; omega, h.lens.2.2⟩⟩
theorem Dn.keep {J : Js} (h : Dn w0 w D j t n k J) (hb : Below w.heap.size w w') : Dn w0 w' D j t n k J := ⟨h.awd.keep hb, h.down, h.fits, h.seg, h.len⟩
theorem Dn.next {J : Js} (h : Dn w0 w D j t n k J) : Dn w0 w D j t n (k + 1) J := ⟨h.awd, h.down, h.fits, h.seg, by have := h.len; omega⟩
theorem cell_q (hD : D q) (ha : JAwd w0 w D j t J) (hc : w.cell? ⟨q, 1, none⟩ = some (.int .i64 (n : Int))) (hk : KeptD w0 w D w') : w'.cell? ⟨q, 1, none⟩ = some (.int .i64 (n : Int)) :=
  (World.cell?_of_block (a := ⟨q, 1, none⟩) (hk.2 q (ha.lt q hD) (.inr hD))).trans hc
theorem LasI.keep (h : LasI w0 w n k j t q stv suv alv sav b) (hb : Below w.heap.size w w') : LasI w0 w' n k j t q stv suv alv sav b := by
  obtain ⟨J, D, st, sv, als, sus, h1, h2, h3, h4, h5, h6⟩ := h
  refine ⟨J, D, st, sv, als, sus, h1, ?_, h3, h4, h5.keep hb, h6.imp (fun ⟨a, u⟩ => ⟨a, u.keep hb⟩) (fun ⟨u, v⟩ => ⟨u.keep hb, v⟩)⟩
  rcases h6 with ⟨_, u⟩ | ⟨u, _⟩
  · exact cell_q h1 u.awd h2 (.of_below hb)
  · exact cell_q h1 u.awd h2 (.of_below hb)
theorem LasI.next (h : LasI w0 w n k j t q stv suv alv sav b) : LasI w0 w n (k + 1) j t q stv suv alv sav b := by
  obtain ⟨J, D, st, sv, als, sus, h1, h2, h3, h4, h5, h6⟩ := h
  exact ⟨J, D, st, sv, als, sus, h1, h2, h3, h4, h5.next, h6.imp (fun ⟨a, u⟩ => ⟨a, u.next⟩) (fun ⟨u, v⟩ => ⟨u.next, v⟩)⟩
theorem las_start {w w' : World} {n j t q : Nat} {f : Int} (h : JAwd w w' (· = q) j t ⟨⟨20000, [], f, false⟩, n, [], []⟩) (hq : w'.cell? ⟨q, 1, none⟩ = some (.int .i64 (n : Int))) : LasI w w' n 0 j t q (.slice none 0 0) (.slice none 0 0) (.slice none 0 0) (.slice none 0 0) false := by
  have e0 : OldB w [] [] := ⟨rfl, fun i x l hx => by simp at hx⟩
  exact ⟨⟨⟨20000, [], f, false⟩, n, [], []⟩, (· = q), [], [], [], [], rfl, hq, ⟨bis_nil _, Nat.zero_le _⟩, ⟨bis_nil _, Nat.zero_le _⟩, ⟨⟨[], .inl ⟨rfl, rfl⟩, e0⟩, (fun g e => by cases e), (fun g e => by cases e), ⟨[], .inl ⟨rfl, rfl⟩, e0⟩, (fun g e => by cases e), (fun g e => by cases e), ⟨Nat.le_refl _, Nat.le_refl _, (fun l hl => by cases hl)⟩⟩, .inl ⟨rfl, h, ⟨rfl, rfl, inv_none, (fun x hx => by cases hx), Nat.le_refl _⟩, ⟨rfl, List.nodup_nil, Nat.zero_le _, (fun x hx => by cases hx)⟩, rfl, Nat.le_refl _⟩⟩
/-- all grows. -/
theorem Lists.grown {alv' : Value} {xa xb : List Value} {bs : List (List UInt8)} (h : Lists w0 w D k suv alv als sus) (hb : bs.length ≤ 4) (hb60 : ∀ l ∈ bs, l.length ≤ 60) (ha : OwnS w w0.heap.size alv xa) (hxa : OldB w0 xa als) (hxb : OldB w0 xb bs) (ho : OwnS w' w0.heap.size alv' (xa ++ xb)) (hg : w.grownBy w' alv.ownBlock) (hv : alv'.ownBlock = alv.ownBlock ∨ alv'.ownBlock = some w.heap.size) (hS : SlV w' alv') : Lists w0 w' (fun g => D g ∨ alv'.ownBlock = some g) (k + 1) suv alv' (als ++ bs) sus := by
  obtain ⟨xs, s1, s2⟩ := h.sure
  have hl := h.lens
  refine ⟨⟨_, ho, hxa.append hxb⟩, fun g e => .inr e, hS, ⟨xs, s1.grownD hg (fun g e => h.apart g e), s2⟩, fun g e => .inl (h.sureD g e), fun g e e2 => ?_, ⟨by rw [List.length_append]; have := hl.1; omega, by have := hl.2.1; omega, fun l hm => (List.mem_append.1 hm).elim (hl.2.2 l) (hb60 l)⟩⟩
  rcases hv with e3 | e3
  · exact h.apart g e (e3.symm.trans e2)
  · have e4 : w.heap.size = g := Option.some.inj (e3.symm.trans e2)
    have := (s1.lt g e).2
    omega
end
end Go.Proofs.YtnegnokielmgkaaGreatDoor

namespace Go.Proofs.YtnegnokielmgkaaGreatDoor
open Go.RowKit

section
variable {w0 w w' : World} {D : Nat → Prop} {k j t q n : Nat} {suv alv stv sav v v' : Value} {st sv : List UInt8} {als sus bs : List (List UInt8)} {J : Js} {xs xa xb l : List Value}
theorem Up.more (h : Up w0 w D j t n k st als sus J) (hb : Below w.heap.size w w') (ho : OwnS w' w.heap.size v xs) : Up w0 w' (fun g => D g ∨ v.ownBlock = some g) j t n k st als sus J :=
  ⟨h.awd.more hb (fun g hg => hg.elim (fun e => ⟨.inl e, Nat.lt_of_lt_of_le (h.awd.lt g e) hb.size⟩) (fun e => ⟨.inr (ho.lt g e).1, (ho.lt g e).2⟩)), h.live, h.fits, h.seg, h.len⟩
theorem las_up (hD : D q) (hc : w.cell? ⟨q, 1, none⟩ = some (.int .i64 (n : Int))) (hst : BI60 w0 stv st) (hsv : BI60 w0 sav sv) (hl : Lists w0 w D k suv alv als sus) (hu : Up w0 w D j t n k st als sus J) : LasI w0 w n k j t q stv suv alv sav false := ⟨J, D, st, sv, als, sus, hD, hc, hst, hsv, hl, .inl ⟨rfl, hu⟩⟩
theorem las_dn (hD : D q) (hc : w.cell? ⟨q, 1, none⟩ = some (.int .i64 (n : Int))) (hst : BI60 w0 stv st) (hsv : BI60 w0 sav sv) (hl : Lists w0 w D k suv alv als sus) (hu : Dn w0 w D j t n k J) (ho : Opens J.p.A st sus als) : LasI w0 w n k j t q stv suv alv sav false := ⟨J, D, st, sv, als, sus, hD, hc, hst, hsv, hl, .inr ⟨hu, .inl ⟨rfl, ho⟩⟩⟩
theorem las_or (hD : D q) (hc : w.cell? ⟨q, 1, none⟩ = some (.int .i64 (n : Int))) (hst : BI60 w0 stv st) (hsv : BI60 w0 sav sv) (hl : Lists w0 w D k suv alv als sus) (hu : Dn w0 w D j t n k J) (ho : OpensOr J.p.A st sus als sv) : LasI w0 w n k j t q stv suv alv sav true := ⟨J, D, st, sv, als, sus, hD, hc, hst, hsv, hl, .inr ⟨hu, .inr ⟨rfl, ho⟩⟩⟩
theorem cell_grown {z : Int} (hc : w.cell? ⟨q, 1, none⟩ = some (.int .i64 z)) (hg : w.grownBy w' v.ownBlock) (hS : SlV w v) : w'.cell? ⟨q, 1, none⟩ = some (.int .i64 z) := by
  refine (World.cell?_of_block (a := ⟨q, 1, none⟩) (hg.block q (World.block_lt_of_cell? _ _ hc) fun e => ?_)).trans hc
  obtain ⟨A, n', c, e2⟩ := hS q e.symm _ _ rfl hc
  cases e2
theorem Up.grown {base : Nat} (h : Up w0 w D j t n k st als sus J) (hg : w.grownBy w' v.ownBlock) (hD : ∀ g, v.ownBlock = some g → D g) (hb : ∀ g, v.ownBlock = some g → w0.heap.size ≤ g) (hS : SlV w v) (hv : v'.ownBlock = v.ownBlock ∨ v'.ownBlock = some w.heap.size) (ho : OwnS w' base v' l) : Up w0 w' (fun g => D g ∨ v'.ownBlock = some g) j t n k st als sus J := ⟨h.awd.grown hg hD hb hS hv ho, h.live, h.fits, h.seg, h.len⟩
theorem Dn.grown {base : Nat} (h : Dn w0 w D j t n k J) (hg : w.grownBy w' v.ownBlock) (hD : ∀ g, v.ownBlock = some g → D g) (hb : ∀ g, v.ownBlock = some g → w0.heap.size ≤ g) (hS : SlV w v) (hv : v'.ownBlock = v.ownBlock ∨ v'.ownBlock = some w.heap.size) (ho : OwnS w' base v' l) : Dn w0 w' (fun g => D g ∨ v'.ownBlock = some g) j t n k J := ⟨h.awd.grown hg hD hb hS hv ho, h.down, h.fits, h.seg, h.len⟩
/-- Records that were appended are among all. -/
theorem las_added (hD : D q) (hc : w.cell? ⟨q, 1, none⟩ = some (.int .i64 (n : Int))) (hst : BI60 w0 stv st) (hsv : BI60 w0 sav sv) (hl : Lists w0 w D k suv alv als sus) (hu : Up w0 w D j t n (k + 1) st (als ++ bs) sus J) (hb : bs.length ≤ 4) (hb60 : ∀ l ∈ bs, l.length ≤ 60) (ha : OwnS w w0.heap.size alv xa) (hxa : OldB w0 xa als) (hxb : OldB w0 xb bs) (ho : OwnS w' w0.heap.size v' (xa ++ xb)) (hg : w.grownBy w' alv.ownBlock) (hv : v'.ownBlock = alv.ownBlock ∨ v'.ownBlock = some w.heap.size) (hS : SlV w' v') : LasI w0 w' n (k + 1) j t q stv suv v' sav false :=
  las_up (D := fun g => D g ∨ v'.ownBlock = some g) (.inl hD) (cell_grown hc hg hl.allS) hst hsv (hl.grown hb hb60 ha hxa hxb ho hg hv hS) (hu.grown hg hl.allD (fun g e => (ha.lt g e).1) hl.allS hv ho)
/-- They are, too, if the power failed behind them. -/
theorem las_addedD (hD : D q) (hc : w.cell? ⟨q, 1, none⟩ = some (.int .i64 (n : Int))) (hst : BI60 w0 stv st) (hsv : BI60 w0 sav sv) (hl : Lists w0 w D k suv alv als sus) (hu : Dn w0 w D j t n (k + 1) J) (hop : Opens J.p.A st sus (als ++ bs)) (hb : bs.length ≤ 4) (hb60 : ∀ l ∈ bs, l.length ≤ 60) (ha : OwnS w w0.heap.size alv xa) (hxa : OldB w0 xa als) (hxb : OldB w0 xb bs) (ho : OwnS w' w0.heap.size v' (xa ++ xb)) (hg : w.grownBy w' alv.ownBlock) (hv : v'.ownBlock = alv.ownBlock ∨ v'.ownBlock = some w.heap.size) (hS : SlV w' v') : LasI w0 w' n (k + 1) j t q stv suv v' sav false :=
  las_dn (D := fun g => D g ∨ v'.ownBlock = some g) (.inl hD) (cell_grown hc hg hl.allS) hst hsv (hl.grown hb hb60 ha hxa hxb ho hg hv hS) (hu.grown hg hl.allD (fun g e => (ha.lt g e).1) hl.allS hv ho) hop
theorem OwnS.lower {b b' : Nat} (h : OwnS w b v xs) (hb : b' ≤ b) : OwnS w b' v xs := by
  rcases h with h | ⟨g, cap, e, h⟩
  · exact .inl h
  · exact .inr ⟨g, cap, e, Nat.le_trans hb h.new, h.lt, h.le, h.max, h.holds, h.there⟩
/-- sure is a copy of all. -/
theorem las_sure {suv' : Value} (hD : D q) (hc : w.cell? ⟨q, 1, none⟩ = some (.int .i64 (n : Int))) (hst : BI60 w0 stv st) (hsv : BI60 w0 sav sv) (hl : Lists w0 w D k suv alv als sus) (hu : Up w0 w D j t n k st als als J) (hb : Below w.heap.size w w') (ho : OwnS w' w.heap.size suv' xa) (hxa : OldB w0 xa als) : LasI w0 w' n k j t q stv suv' alv sav false := by
  have hk := hl.keep hb
  have hsz := hu.awd.below.size
  obtain ⟨xa', a1, a2⟩ := hl.all
  refine las_up (D := fun g => D g ∨ suv'.ownBlock = some g) (.inl hD) (cell_q hD hu.awd hc (.of_below hb)) hst hsv ⟨hk.all, fun g e => .inl (hl.allD g e), hk.allS, ⟨xa, ho.lower hsz, hxa⟩, fun g e => .inr e, fun g e e2 => ?_, ⟨hl.lens.1, hl.lens.1, hl.lens.2.2⟩⟩ (hu.more hb ho)
  have h1 := (ho.lt g e).1
  have h2 := (a1.lt g e2).2
  omega
/-- An empty list that is laid ahead of an append. -/
theorem own_empty (w : World) : OwnS (w.alloc (.cells #[] 32)) w.heap.size (.slice (some ⟨w.heap.size, 0, none⟩) 0 0) [] :=
  .inr ⟨w.heap.size, 0, rfl, Nat.le_refl _, by rw [asz]; exact Nat.lt_succ_self _, Nat.le_refl _, by unfold maxLen; omega, fun j b hj => by simp at hj, fun j hj => by omega⟩
theorem lists_nil (w0 w : World) (D : Nat → Prop) (k : Nat) : Lists w0 w D k (.slice none 0 0) (.slice none 0 0) [] [] := by
  have e0 : OldB w0 [] [] := ⟨rfl, fun i x l hx => by simp at hx⟩
  exact ⟨⟨[], .inl ⟨rfl, rfl⟩, e0⟩, (fun g e => by cases e), (fun g e => by cases e), ⟨[], .inl ⟨rfl, rfl⟩, e0⟩, (fun g e => by cases e), (fun g e => by cases e), ⟨Nat.zero_le _, Nat.zero_le _, (fun l hl => by cases hl)⟩⟩
end
end Go.Proofs.YtnegnokielmgkaaGreatDoor

namespace Go.Proofs.YtnegnokielmgkaaGreatDoor
open Go.RowKit

theorem las_exit {w0 w : World} {n k j t q : Nat} {stv suv alv sav : Value} {b : Bool} (h : LasI w0 w n k j t q stv suv alv sav b) : ∃ (J : Js) (D : Nat → Prop) (st sv : List UInt8) (als sus : List (List UInt8)), D q ∧ w.cell? ⟨q, 1, none⟩ = some (.int .i64 (n : Int)) ∧ BI60 w0 stv st ∧ BI60 w0 sav sv ∧ Lists w0 w D k suv alv als sus ∧ JAwd w0 w D j t J ∧ Fits J.p ∧ ((b = false ∧ Opens J.p.A st sus als) ∨ (b = true ∧ OpensOr J.p.A st sus als sv)) := by
  obtain ⟨J, D, st, sv, als, sus, h1, h2, h3, h4, h5, h6⟩ := h
  refine ⟨J, D, st, sv, als, sus, h1, h2, h3, h4, h5, ?_⟩
  rcases h6 with ⟨hb, hu⟩ | ⟨hd, ho⟩
  · exact ⟨hu.awd, hu.fits, .inl ⟨hb, hu.live.inv.opens⟩⟩
  · exact ⟨hd.awd, hd.fits, ho⟩
theorem open_any {w0 w : World} {c : Nat} {TC : Tp} {p p2 : Pl} {seg b : Nat} {s : List UInt8} {rs : List (List UInt8)} (hG : Glob w0) (hM : Mov w0) (hb : Below w0.heap.size w0 w) (htc : TP w c TC p) (hnc : ∀ k ∈ TC.blocks c, b ≤ k) (h0 : w0.heap.size ≤ b) (h1 : b ≤ w.heap.size) (hs : 16 ≤ seg) (hs2 : seg ≤ 115) (hz : sizeS p.A ≤ 20000) (hl : loadP p seg = (0, ⟨p2, seg, s, rs⟩)) : Calls Tryz.prog 24 #[.pointer (some ⟨c, 0, none⟩), .int .i64 (seg : Int)] w fun e w' => ∃ kj, e = .returned (.tuple #[.pointer (some ⟨kj, 0, none⟩), .int .i64 0]) ∧ JAwk w0 w' w'.heap.size kj c ⟨p2, seg, s, rs⟩ ∧ Below b w w' := by
  have hg : 0 ∉ TC.blocks c := fun hc => by have := hnc _ hc; have := hG.lt; omega
  have hm : 1 ∉ TC.blocks c := fun hc => by have := hnc _ hc; have := hM.lt; omega
  refine (jopen htc (hG.below hb) (hM.below hb) hg hm hs (by omega) (by omega)).mono fun e w' ho => ?_
  rw [hl] at ho
  obtain ⟨kj, e1, k1, k2⟩ := awk_open hG hM hb (fun k hk => Nat.le_trans h0 (hnc k hk)) ho rfl
  exact ⟨kj, e1, k1, k2.below hnc h1⟩
theorem jad_crash {w0 w : World} {D : Nat → Prop} {j t : Nat} {J : Js} (h : JAwd w0 w D j t J) {kv : Value} {ks : List Int} (hks : IIs w0 kv ks) (hr : ∀ k ∈ ks, -9223372036854775808 ≤ k ∧ k ≤ 9223372036854775807) : Calls Tryz.prog 12 #[.pointer (some ⟨t, 0, none⟩), kv] w fun e w' => ∃ c TC, e = .returned (.pointer (some ⟨c, 0, none⟩)) ∧ TP w' c TC (crashP J.p ks) ∧ (∀ k ∈ TC.blocks c, w.heap.size ≤ k) ∧ Below w.heap.size w w' := by
  obtain ⟨T, sv, rv, xs, h5⟩ := h.at
  exact tp_crash h5.tp (hks.below h.below) hr
/-- What is read of the opened journal. -/
theorem recs_any {w : World} {j t : Nat} {T : Tp} {J : Js} {sv rv : Value} {xs : List Value} (h : JAt w j t T J sv rv xs) {als : List (List UInt8)} (hp : J.rs <+: als) (hl : als.length ≤ 1000) (h60 : ∀ l ∈ als, l.length ≤ 60) : Calls Tryz.prog 35 #[.pointer (some ⟨j, 0, none⟩)] w fun e w' => ∃ A c, e = .returned (.slice A J.rs.length c) ∧ PIs w' (.slice A J.rs.length c) J.rs ∧ Below w.heap.size w w' := by
  have hle := hp.length_le
  refine (jrecs h (by omega) (fun l hm => by have := h60 l (hp.subset hm); omega)).mono fun e w' ⟨hb, v, ys, e1, ho, hf⟩ => ?_
  obtain ⟨A, c, rfl, g1, g2, g3, g4⟩ := ho.vis
  have hlen : ys.length = J.rs.length := hf.1
  have hpi : PIs w' (.slice A ys.length c) J.rs := pis_of (ho.vis.mono (G := fun _ => True) fun _ _ _ => trivial) (hf.mono (G := fun _ => True) fun _ _ _ => trivial)
  rw [hlen] at e1 hpi
  exact ⟨A, c, e1, hpi, hb⟩
end Go.Proofs.YtnegnokielmgkaaGreatDoor

namespace Go.Proofs.YtnegnokielmgkaaGreatDoor
open Go.RowKit

theorem pis_upto {w : World} {A : Option Addr} {n cap : Nat} {ls : List (List UInt8)} (h : PIs w (.slice A n cap) ls) (k : Nat) (hk : k ≤ ls.length) : PIs w (.slice A k cap) (ls.take k) := by
  obtain ⟨A', cap', e, h1, h2, h3⟩ := h
  injection e with e1 e2 e3
  subst e1 e2 e3
  refine ⟨A, cap, by rw [List.length_take, Nat.min_eq_left hk], by rw [List.length_take]; omega, h2, fun i x hi => h3 i x ?_⟩
  rw [List.getElem?_take] at hi
  split at hi
  · exact hi
  · cases hi
section
variable {w0 w : World} {D : Nat → Prop} {k : Nat} {suv alv : Value} {als sus : List (List UInt8)}
theorem Lists.pis (h : Lists w0 w D k suv alv als sus) (hb : Below w0.heap.size w0 w) : PIs w alv als := by
  obtain ⟨xa, a1, a2⟩ := h.all
  exact pis_keptD hb a1 h.allD a2 ⟨Nat.le_refl _, fun _ _ _ => rfl⟩
theorem Lists.sureV (h : Lists w0 w D k suv alv als sus) : ∃ A c, suv = .slice A sus.length c := by
  obtain ⟨xs, a1, a2⟩ := h.sure
  obtain ⟨A, c, rfl, _⟩ := a1.vis
  exact ⟨A, c, by rw [a2.1]⟩
theorem Lists.allV (h : Lists w0 w D k suv alv als sus) : ∃ A c, alv = .slice A als.length c ∧ als.length ≤ c := by
  obtain ⟨xs, a1, a2⟩ := h.all
  obtain ⟨A, c, rfl, h1, _⟩ := a1.vis
  exact ⟨A, c, by rw [a2.1], by rw [← a2.1]; exact h1⟩
end
theorem pre_take {als rs : List (List UInt8)} (h : rs <+: als) : als.take rs.length = rs := (List.prefix_iff_eq_take.1 h).symm
theorem pis_upto' {w0 w : World} {D : Nat → Prop} {k : Nat} {suv : Value} {als sus rs : List (List UInt8)} {alv : Value} (h : Lists w0 w D k suv alv als sus) (hb : Below w0.heap.size w0 w) (hp : rs <+: als) : ∀ A c, alv = .slice A als.length c → PIs w (.slice A rs.length c) rs := fun A c e => by
  subst e
  have := pis_upto (h.pis hb) rs.length hp.length_le
  rwa [pre_take hp] at this
end Go.Proofs.YtnegnokielmgkaaGreatDoor
