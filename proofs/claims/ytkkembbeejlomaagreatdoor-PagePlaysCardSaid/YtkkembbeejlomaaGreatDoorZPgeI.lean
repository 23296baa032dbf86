/- The document's own store, apart from what lies about it. The document's own Load. -/
import Derived.Test.YtkkembbeejlomaaGreatDoorZPgeE
import Derived.Test.YtkkembbeejlomaaGreatDoorZOrfA
set_option linter.unusedSimpArgs false
set_option linter.unusedVariables false
set_option linter.unnecessarySimpa false
namespace Go.Proofs.YtkkembbeejlomaaGreatDoor
open Go.RowKit Go.Shelf Go.Sort Go.Lib

def blkOf : Value → Option Nat
  | .slice (some a) _ _ => some a.block
  | _ => none
def ROwns (r : Nat) (v : Value) (us : List Value) (k : Nat) : Prop := k = r ∨ v.ownBlock = some k ∨ ∃ u ∈ us, blkOf u = some k
structure RSt (w : World) (r : Nat) (most : Int) (v : Value) (us : List Value) (P : List (List Row)) : Prop where
  at_ : RAt w r most v us P
  off : v.ownBlock ≠ some r
  offs : ∀ u ∈ us, ∀ b, blkOf u = some b → b ≠ r ∧ v.ownBlock ≠ some b
theorem RAt.len {w : World} {r : Nat} {most : Int} {v : Value} {us : List Value} {P : List (List Row)} (h : RAt w r most v us P) : us.length = P.length := by
  have := h.row.len
  omega
theorem Sl.blk {w : World} {u : Value} {p : List Row} (h : Sl w u p) : ∀ b, blkOf u = some b → b < w.heap.size := fun b e => by
  rcases h with ⟨A, c, rfl, _, _, h4⟩ | ⟨g, o, c, rfl, hg, _⟩
  · cases A with
    | none => cases e
    | some a =>
      have e : a.block = b := Option.some.inj e
      have := h4 a rfl
      omega
  · have e : g = b := Option.some.inj e
    omega
theorem Sl.touch {S : Nat → Prop} {w w' : World} {u : Value} {p : List Row} (h : Sl w u p) (ht : Touch S w w') (hS : ∀ b, blkOf u = some b → ¬ S b) : Sl w' u p := by
  rcases h with ⟨A, c, rfl, h1, rfl, h4⟩ | ⟨g, o, c, rfl, hg, h1, h2, h3⟩
  · exact .inl ⟨A, c, rfl, h1, rfl, fun a e => Nat.lt_of_lt_of_le (h4 a e) ht.size⟩
  · refine .inr ⟨g, o, c, rfl, Nat.lt_of_lt_of_le hg ht.size, h1, h2, fun j x hj => ?_⟩
    exact (World.cell?_of_block (a := ⟨g, o + j, none⟩) (ht.block g hg (hS g rfl))).trans (h3 j x hj)
theorem RSt.owns_lt {w : World} {r : Nat} {most : Int} {v : Value} {us : List Value} {P : List (List Row)} (h : RSt w r most v us P) : ∀ k, ROwns r v us k → k < w.heap.size := fun k hk => by
  rcases hk with rfl | hk | ⟨u, hu, hk⟩
  · exact heap_lt h.at_.head
  · exact RowIs.lt h.at_.row k hk
  · obtain ⟨i, hi⟩ := List.getElem?_of_mem hu
    have hil := (List.getElem?_eq_some_iff.1 hi).1
    rw [h.at_.len] at hil
    obtain ⟨u', h1, h2⟩ := h.at_.each i _ (List.getElem?_eq_getElem hil)
    rw [hi] at h1
    obtain rfl := Option.some.inj h1
    exact h2.blk k hk
theorem RSt.touch {S : Nat → Prop} {w w' : World} {r : Nat} {most : Int} {v : Value} {us : List Value} {P : List (List Row)} (h : RSt w r most v us P) (ht : Touch S w w') (hS : ∀ k, ROwns r v us k → ¬ S k) : RSt w' r most v us P :=
  ⟨⟨(ht.block r (heap_lt h.at_.head) (hS r (.inl rfl))).trans h.at_.head, RowIs.touch h.at_.row ht (fun b e => hS b (.inr (.inl e))), fun i p hp => by
    obtain ⟨u, h1, h2⟩ := h.at_.each i p hp
    exact ⟨u, h1, h2.touch ht (fun b e => hS b (.inr (.inr ⟨u, List.mem_of_getElem? h1, e⟩)))⟩⟩, h.off, h.offs⟩
theorem RSt.below {w w' : World} {r : Nat} {most : Int} {v : Value} {us : List Value} {P : List (List Row)} (h : RSt w r most v us P) (hb : Below w.heap.size w w') : RSt w' r most v us P := h.touch (S := fun _ => False) (.of_below hb) (fun _ _ e => e)
theorem RfS.touch {S : Nat → Prop} {w w' : World} {g : Nat} {A : Option Addr} {cap : Nat} {bs : List UInt8} {st : Option Nat} (h : RfS w g A cap bs st) (ht : Touch S w w') (hg : ¬ S g) (hA : ∀ a, A = some a → bs ≠ [] → ¬ S a.block) : RfS w' g A cap bs st := by
  have key : ∀ {p e bad}, RfAt w g A cap bs p e bad → RfAt w' g A cap bs p e bad := fun {p e bad} h => ⟨(ht.block g (heap_lt h.blk) hg).trans h.blk, h.le, h.room, h.max, fun i b hi => by
    obtain ⟨a, h1, h2, h3, h4⟩ := h.byt i b hi
    have := hA a h1 (fun e => by rw [e] at hi; simp at hi)
    exact ⟨a, h1, Nat.lt_of_lt_of_le h2 ht.size, h3, (World.cell?_of_block (by rw [add_block]; exact ht.block _ h2 this)).trans h4⟩⟩
  cases st with
  | none =>
    obtain ⟨p, e, bad, h1, h2⟩ := h
    exact ⟨p, e, bad, h1, key h2⟩
  | some p =>
    obtain ⟨bad, h2⟩ := h
    exact ⟨bad, key h2⟩
/-- One more page. -/
theorem RSt.push {W W' : World} {r : Nat} {most : Int} {v v2 u : Value} {us : List Value} {P : List (List Row)} {p : List Row} (h : RSt W r most v us P) (hu : Sl W u p) (hnew : ∀ k, ROwns r v us k → blkOf u ≠ some k)
    (hrow : RowIs W' 1 v2 (P.length + 1) (us ++ [u])) (hg : W.grownBy W' v.ownBlock) (hblk : v2.ownBlock = v.ownBlock ∨ v2.ownBlock = some W.heap.size) :
    RSt (W'.setCell ⟨r, 1, none⟩ v2) r most v2 (us ++ [u]) (P ++ [p]) ∧ (∀ k, ROwns r v2 (us ++ [u]) k → ROwns r v us k ∨ blkOf u = some k ∨ k = W.heap.size) ∧ Touch (ROwns r v us) W (W'.setCell ⟨r, 1, none⟩ v2) := by
  have hs := heap_lt h.at_.head
  have ht1 : Touch (fun k => v.ownBlock = some k) W W' := Touch.grown (Touch.refl _ _) hg (fun k e _ => e)
  have hhead1 : W'.heap[r]? = _ := (ht1.block r hs h.off).trans h.at_.head
  have hv2s : v2.ownBlock ≠ some r := by
    rcases hblk with e | e
    · rw [e]; exact h.off
    · rw [e]; intro e2; have e2 : W.heap.size = r := Option.some.inj e2; omega
  have ht2 : Touch (fun k => k = r) W' (W'.setCell ⟨r, 1, none⟩ v2) := Touch.setCell (S := fun k => k = r) (Touch.refl _ _) ⟨r, 1, none⟩ (fun _ => rfl) _
  have hT : Touch (ROwns r v us) W (W'.setCell ⟨r, 1, none⟩ v2) := (ht1.mono (fun k _ e => Or.inr (Or.inl e))).trans (ht2.mono (T := ROwns r v us) (fun k _ e => Or.inl e)) (fun i _ e => e)
  have hv2a : ∀ b, b < W.heap.size → v.ownBlock ≠ some b → v2.ownBlock ≠ some b := fun b hb hne => by
    rcases hblk with e | e
    · rw [e]; exact hne
    · rw [e]; intro e2; have e2 : W.heap.size = b := Option.some.inj e2; omega
  have hslT : ∀ (x : Value) (q : List Row), Sl W x q → (∀ b, blkOf x = some b → b ≠ r ∧ v.ownBlock ≠ some b) → Sl (W'.setCell ⟨r, 1, none⟩ v2) x q := fun x q hx h1 => (hx.touch ht1 (fun b e => (h1 b e).2)).touch ht2 (fun b e => (h1 b e).1)
  have huo : ∀ b, blkOf u = some b → b ≠ r ∧ v.ownBlock ≠ some b := fun b e => ⟨fun e2 => hnew r (.inl rfl) (e2 ▸ e), fun e2 => hnew b (.inr (.inl e2)) e⟩
  have hlen := h.at_.len
  refine ⟨⟨⟨by simpa using set_at hhead1 1 v2, ?_, fun i q hq => ?_⟩, hv2s, fun x hx b hb => ?_⟩, fun k hk => ?_, hT⟩
  · rw [List.length_append]
    exact RowIs.touch hrow ht2 (fun b e e2 => hv2s (e2 ▸ e))
  · by_cases hil : i < P.length
    · rw [List.getElem?_append_left hil] at hq
      obtain ⟨x, h1, h2⟩ := h.at_.each i q hq
      exact ⟨x, by rw [List.getElem?_append_left (by rw [hlen]; exact hil)]; exact h1, hslT x q h2 (h.offs x (List.mem_of_getElem? h1))⟩
    · have hie : i = P.length := by
        have := (List.getElem?_eq_some_iff.1 hq).1
        rw [List.length_append, List.length_singleton] at this
        omega
      subst hie
      rw [List.getElem?_concat_length] at hq
      obtain rfl := Option.some.inj hq
      exact ⟨u, by rw [← hlen, List.getElem?_concat_length], hslT u p hu huo⟩
  · rcases List.mem_append.1 hx with hx | hx
    · obtain ⟨h3, h4⟩ := h.offs x hx b hb
      exact ⟨h3, hv2a b (h.owns_lt _ (.inr (.inr ⟨x, hx, hb⟩))) h4⟩
    · obtain rfl := List.mem_singleton.1 hx
      obtain ⟨h3, h4⟩ := huo b hb
      exact ⟨h3, hv2a b (hu.blk b hb) h4⟩
  · rcases hk with rfl | hk | ⟨x, hx, hb⟩
    · exact .inl (.inl rfl)
    · rcases hblk with e | e
      · exact .inl (.inr (.inl (e ▸ hk)))
      · rw [e] at hk
        exact .inr (.inr (Option.some.inj hk).symm)
    · rcases List.mem_append.1 hx with hx | hx
      · exact .inl (.inr (.inr ⟨x, hx, hb⟩))
      · obtain rfl := List.mem_singleton.1 hx
        exact .inr (.inl hb)
theorem flat_most {N : Nat} : ∀ (P : List (List Row)), (∀ p ∈ P, p.length ≤ N) → P.flatten.length ≤ P.length * N
  | [], _ => by simp
  | p :: P, h => by
    have h1 := flat_most P (fun q hq => h q (List.mem_cons_of_mem _ hq))
    have h2 := h p (List.mem_cons_self ..)
    rw [List.flatten_cons, List.length_append, List.length_cons, Nat.succ_mul]
    omega
end Go.Proofs.YtkkembbeejlomaaGreatDoor

namespace Go.Proofs.YtkkembbeejlomaaGreatDoor
open Go.RowKit Go.Shelf Go.Sort Go.Lib

theorem RfS.code {w : World} {g : Nat} {A : Option Addr} {cap : Nat} {bs : List UInt8} {st : Option Nat} (h : RfS w g A cap bs st) : ∃ e : Int, w.cell? ⟨g, 2, none⟩ = some (.int .i64 e) ∧ (e == 0) = st.isSome := by
  cases st with
  | none =>
    obtain ⟨p, e, bad, h1, h2⟩ := h
    exact ⟨e, cell_of h2.blk 2, by simpa using h1⟩
  | some p =>
    obtain ⟨bad, h2⟩ := h
    exact ⟨0, cell_of h2.blk 2, rfl⟩
def contR (most n : Nat) (bs : List UInt8) (o : Option (List (List Row) × Option Nat)) : Option (List (List Row)) := match o with
  | none => none
  | some (P, st) => if st = some bs.length ∧ n ≤ 256 ∧ holdsP most P then some P else none
theorem loadR_cont (most : Nat) (bs : List UInt8) : loadR most bs = contR most (natS bs (some 0)).1 bs (pagesR bs (min (natS bs (some 0)).1 257) [] (natS bs (some 0)).2) := by
  unfold loadR contR
  rfl
theorem rowOf_blk {w : World} {B : Nat} {v : Value} {p : List Row} (h : RowsIs w B v p) : ∀ b, blkOf v = some b → B ≤ b := fun b e => by
  obtain ⟨A, c, rfl, _, _, _, h4, _⟩ := h.1.form
  cases A with
  | none => cases e
  | some a =>
    obtain ⟨g, rfl, h5⟩ := h4 a rfl
    have e : g = b := Option.some.inj e
    exact h.2 b (e ▸ h5)
/-- What Load leaves. -/
def RLoadPost (w : World) (most : Nat) (o : Option (List (List Row))) (e : Ending) (w' : World) : Prop :=
  Below w.heap.size w w' ∧ ((o = none ∧ e = .returned (.pointer none)) ∨ ∃ P r v us, o = some P ∧ e = .returned (.pointer (some ⟨r, 0, none⟩)) ∧ RSt w' r most v us P ∧ ∀ k, ROwns r v us k → w.heap.size ≤ k)
set_option maxRecDepth 100000 in
set_option maxHeartbeats 16000000 in
theorem RLoad_any {w : World} {x : Value} {bs : List UInt8} {most : Nat} (h : BIs w x bs) (hm : 2 ≤ most ∧ most ≤ 64) :
    Calls Tryz.prog 13 #[x, .int .i64 most] w (RLoadPost w most (loadR most bs)) := by
  rw [loadR_cont]
  obtain ⟨A, cap, rfl, hc1, hc2, hbyt⟩ := h
  have HOF := Lib.hid (rf_of hc1 hc2 hbyt)
  have HAB : Hid (∀ a, A = some a → bs ≠ [] → a.block < w.heap.size) := Lib.hid (fun a e hne => by
    obtain ⟨b, hb⟩ : ∃ b, bs[0]? = some b := ⟨_, List.getElem?_eq_getElem (List.length_pos_iff.2 hne)⟩
    obtain ⟨a', e', h1, _⟩ := hbyt 0 b hb
    rw [e] at e'
    obtain rfl := Option.some.inj e'
    exact h1)
  obtain ⟨n, st1, hn⟩ : ∃ n st1, natS bs (some 0) = (n, st1) := ⟨_, _, rfl⟩
  have hn64 := natS_le bs (some 0)
  rw [hn] at hn64 ⊢
  simp only at hn64 ⊢
  have HNN := Lib.hid hn
  clear hbyt hn hc1 hc2
  have HM := Lib.hid hm
  clear hm
  go_enter Tryz.func13, Tryz.ntmps13
  go_wp2_with fail
  refine (HOF.out).mono ?_
  rintro e w1 ⟨g, rfl, hg, hR, hb1⟩
  have hat := alloc_at w1 (.cells #[.int .i64 most, .slice none 0 0] 31)
  have hbn := below_new (w := w1) (.cells #[.int .i64 most, .slice none 0 0] 31)
  obtain ⟨w2, hw2⟩ : ∃ w2, w2 = w1.alloc (.cells #[.int .i64 most, .slice none 0 0] 31) := ⟨_, rfl⟩
  rw [← hw2] at hat hbn
  have hgl := hR.lt
  have hst : RSt w2 w1.heap.size most (.slice none 0 0) [] [] := ⟨⟨hat, RowIs.nil _ _, fun i p hp => by simp at hp⟩, (fun e => by cases e), (fun u hu => by cases hu)⟩
  have HST := Lib.hid hst
  have HN := Lib.hid (rnat_u (hR.below hbn))
  rw [HNN.out] at HN
  have HB2 := Lib.hid (hb1.trans (hbn.mono hb1.size))
  have HG := Lib.hid hg
  have HR2 := Lib.hid (hR.below hbn)
  have hs1 : w2.heap.size = w1.heap.size + 1 := by rw [hw2, asz]
  have HS1 := Lib.hid (And.intro hs1 hb1.size)
  have HGL := Lib.hid hgl
  obtain ⟨s, hs⟩ : ∃ s, w1.heap.size = s := ⟨_, rfl⟩
  rw [hs] at HST HS1 HGL
  clear hat hbn hR hgl hst hb1 hg hs1 HOF
  go_wp2_with fail
  rw [← hw2]
  clear hw2 hs
  refine (HN.out).mono ?_
  rintro e w3 ⟨rfl, hR3, hO3⟩
  have HR3 := Lib.hid hR3
  have HST3 := Lib.hid (HST.out.touch hO3.touch (fun k hk => by
    have := HGL.out
    rcases hk with rfl | hk | ⟨u, hu, _⟩
    · omega
    · cases hk
    · cases hu))
  have HB3 : Hid (Below w.heap.size w w3) := Lib.hid (HB2.out.trans (hO3.touch.below (fun k e => by have := HG.out; omega) HB2.out.size))
  clear hR3 hO3 HN
  go_wp2_with fail
  go_loopw [8] (fun iv wr => ∃ (i : Nat) (P : List (List Row)) (st : Option Nat) (v : Value) (us : List Value), i ≤ min n 257 ∧ iv = .int .u64 i ∧ P.length = i ∧ RSt wr s most v us P ∧ (∀ k, ROwns s v us k → w.heap.size ≤ k ∧ k ≠ g) ∧ (∀ p ∈ P, p.length ≤ 64) ∧ RfS wr g A cap bs st ∧ Below w.heap.size w wr ∧ pagesR bs (min n 257) [] st1 = pagesR bs (min n 257 - i) P st) (fun iv _ => min n 257 - (intOf iv).toNat)
  case atStart => exact ⟨0, [], st1, _, _, Nat.zero_le _, rfl, rfl, HST3.out, (fun k hk => by
    have := HGL.out
    have := HS1.out.2
    rcases hk with rfl | hk | ⟨u, hu, _⟩
    · exact ⟨by omega, by omega⟩
    · cases hk
    · cases hu), (fun p hp => by cases hp), HR3.out, HB3.out, rfl⟩
  case round =>
    obtain ⟨i, P, st, v, us, hi, rfl, hPl, hSt, hOwn, h64, hRd, hbw, hcont⟩ := hrel
    by_cases hgo : i < min n 257 ∧ st.isSome = true
    · obtain ⟨hlt, hsome⟩ := hgo
      obtain ⟨q, rfl⟩ : ∃ q, st = some q := by
        cases st with
        | none => cases hsome
        | some q => exact ⟨q, rfl⟩
      obtain ⟨ec, kc, hec⟩ := hRd.code
      obtain rfl : ec = 0 := by
        have hec : (ec == 0) = true := hec
        simpa using hec
      obtain ⟨m0, hm0⟩ : ∃ m0, min n 257 - i = m0 + 1 := ⟨min n 257 - i - 1, by omega⟩
      have HM0 := Lib.hid hm0
      have HM0S : Hid (min n 257 - (i + 1) = m0) := Lib.hid (by omega)
      obtain ⟨k, st2, hnk⟩ : ∃ k st2, natS bs (some q) = (k, st2) := ⟨_, _, rfl⟩
      have HNK := Lib.hid hnk
      have HNA := Lib.hid (rnat_u hRd)
      rw [hnk] at HNA
      have hk64 := natS_le bs (some q)
      rw [hnk] at hk64
      simp only at hk64
      have HCONT := Lib.hid hcont
      have HS := Lib.hid (And.intro hSt (And.intro hOwn h64))
      have HBW := Lib.hid hbw
      have HPL := Lib.hid hPl
      have HLT : Hid (i + 1 ≤ min n 257) := Lib.hid (by omega)
      have HGR := Lib.hid hRd.lt
      have iI : (i : Int) < (n : Int) := by omega
      have iJ : (i : Int) < 257 := by omega
      clear hcont hSt hOwn h64 hRd hbw hPl hlt hsome hec hnk hm0 hi
      go_wp2_with fail
      refine (HNA.out).mono ?_
      rintro e w4 ⟨rfl, hR4, hO4⟩
      have HO4 := Lib.hid hO4
      have HR4 := Lib.hid hR4
      have HG4 : Hid (g < w4.heap.size) := Lib.hid (Nat.lt_of_lt_of_le HGR.out hO4.size)
      have HAB4 : Hid (∀ a, A = some a → bs ≠ [] → a.block < w4.heap.size) := Lib.hid (fun a e hne => by
        have := HAB.out a e hne
        have := HBW.out.size
        have := hO4.size
        omega)
      clear hO4 hR4 HNA kc
      go_wp2_with fail
      go_loopw [10, 11] (fun pv jv wx => ∃ (j : Nat) (p : List Row) (st' : Option Nat), j ≤ min k 65 ∧ jv = .int .u64 j ∧ p.length = j ∧ RowsIs wx w4.heap.size pv p ∧ RfS wx g A cap bs st' ∧ Only g w4 wx ∧ rowsR bs (min k 65) [] st2 = rowsR bs (min k 65 - j) p st') (fun _ jv _ => min k 65 - (intOf jv).toNat)
      case atStart => exact ⟨0, [], st2, Nat.zero_le _, rfl, rfl, ⟨RowIs.nil _ _, (fun b e => by cases e)⟩, HR4.out, Only.refl _ _, rfl⟩
      case round =>
        obtain ⟨wx, rfl⟩ : ∃ wx, wx = wr := ⟨_, rfl⟩
        obtain ⟨j, p, st', hj, rfl, hpl, hrwx, hrfx, hox, hcontR⟩ := hrel
        by_cases hgoj : j < min k 65 ∧ st'.isSome = true
        · obtain ⟨hltj, hsome⟩ := hgoj
          obtain ⟨q3, rfl⟩ : ∃ q3, st' = some q3 := by
            cases st' with
            | none => cases hsome
            | some q => exact ⟨q, rfl⟩
          obtain ⟨ec, kc, hec⟩ := hrfx.code
          obtain rfl : ec = 0 := by
            have hec : (ec == 0) = true := hec
            simpa using hec
          obtain ⟨m1, hm1⟩ : ∃ m1, min k 65 - j = m1 + 1 := ⟨min k 65 - j - 1, by omega⟩
          rw [hm1, rowsR] at hcontR
          have HM1 : Hid (min k 65 - (j + 1) = m1) := Lib.hid (by omega)
          have HLTJ : Hid (j + 1 ≤ min k 65) := Lib.hid (by omega)
          have HS5 := Lib.hid (rstr_u (most := 16) (by omega) hrfx)
          obtain ⟨sv, o1, hsv⟩ : ∃ sv o1, strS 16 bs (some q3) = (sv, o1) := ⟨_, _, rfl⟩
          rw [hsv] at HS5
          obtain ⟨kk, rfl⟩ : ∃ kk : K, sv = ⟨kk.toArray⟩ := ⟨sv.data.toList, by simp⟩
          obtain ⟨m, o2, hmv⟩ : ∃ m o2, numS bs o1 = (m, o2) := ⟨_, _, rfl⟩
          have hrow : rowS bs (some q3) = (⟨kk, m⟩, o2) := by
            unfold rowS
            rw [hsv]
            simp only
            rw [hmv]
          rw [hrow] at hcontR
          simp only at hcontR
          obtain ⟨Ap, cp, rfl, _⟩ := hrwx.1.form
          have HCR := Lib.hid hcontR
          have HMV := Lib.hid hmv
          have HRWX := Lib.hid hrwx
          have HOX := Lib.hid hox
          have HPJ := Lib.hid hpl
          have jI : (j : Int) < (k : Int) := by omega
          have jJ : (j : Int) < 65 := by omega
          have HRWJ0 := Lib.hid hrwx.1
          clear hcontR hsv hmv hrow hrwx hrfx hox hpl hltj hsome hec hm1 hj
          go_wp2_with fail
          refine (HS5.out).mono ?_
          rintro e w5 ⟨rfl, hR5, hO5⟩
          have hat5 := alloc_at w5 (.cells #[.string ⟨kk.toArray⟩, .int .i64 0] 42)
          have hb5 := below_new (w := w5) (.cells #[.string ⟨kk.toArray⟩, .int .i64 0] 42)
          have HNU := Lib.hid (rnum_u (hR5.below hb5))
          rw [HMV.out] at HNU
          have hg5 : g < w5.heap.size := hR5.lt
          have hrw5 : RowsIs w5 w4.heap.size (.slice Ap p.length cp) p := ⟨RowIs.touch HRWX.out.1 hO5.touch (fun b e => by have := HRWX.out.2 b e; have := HG4.out; omega), HRWX.out.2⟩
          have HRW5 := Lib.hid hrw5
          have HO5 := Lib.hid ((HOX.out.trans hO5).trans (Only.of_below hb5))
          have HOS5 := Lib.hid (HOX.out.trans hO5).size
          have HAT5 := Lib.hid hat5
          have HB5 := Lib.hid hb5
          have HG5 := Lib.hid hg5
          clear hR5 hO5 hat5 hb5 hg5 hrw5 HS5 kc
          go_wp2_with fail
          refine (HNU.out).mono ?_
          rintro e w6 ⟨rfl, hR6, hO6⟩
          have hat6 : w6.heap[w5.heap.size]? = some (.cells #[.string ⟨kk.toArray⟩, .int .i64 0] 42 (0, 0)) := (hO6.block _ (by rw [asz]; omega) (by have := HG5.out; omega)).trans HAT5.out
          have c0 : w6.cell? ⟨w5.heap.size, 0, none⟩ = some (.string ⟨kk.toArray⟩) := cell_of hat6 0
          have c1 : w6.cell? ⟨w5.heap.size, 1, none⟩ = some (.int .i64 0) := cell_of hat6 1
          have f1 : w6.frozen? ⟨w5.heap.size, 1, none⟩ = false := free0 hat6 1
          have ht7 : Touch (fun k => k = w5.heap.size) w6 (w6.setCell ⟨w5.heap.size, 1, none⟩ (.int .i64 m)) := Touch.setCell (S := fun k => k = w5.heap.size) (Touch.refl _ _) ⟨w5.heap.size, 1, none⟩ (fun _ => rfl) _
          have hb8 := below_new (w := w6.setCell ⟨w5.heap.size, 1, none⟩ (.int .i64 m)) (.cells #[.string ⟨kk.toArray⟩, .int .i64 m] 42)
          have hat8 := alloc_at (w6.setCell ⟨w5.heap.size, 1, none⟩ (.int .i64 m)) (.cells #[.string ⟨kk.toArray⟩, .int .i64 m] 42)
          have hsz6 : (w6.setCell ⟨w5.heap.size, 1, none⟩ (.int .i64 m)).heap.size = w6.heap.size := by simp [World.setCell]
          rw [hsz6] at hat8
          have HSZ6 := Lib.hid hsz6
          have HSRC := Lib.hid (src_lit hat8)
          have hrw8 : RowsIs ((w6.setCell ⟨w5.heap.size, 1, none⟩ (.int .i64 m)).alloc (.cells #[.string ⟨kk.toArray⟩, .int .i64 m] 42)) w4.heap.size (.slice Ap p.length cp) p := by
            refine RowsIs.below ⟨?_, HRW5.out.2⟩ hb8
            exact ((HRW5.out.1.below HB5.out).touch hO6.touch (fun b e => by have := HRW5.out.2 b e; have := HG4.out; omega)).touch ht7 (fun b e => by have := HRW5.out.1.lt b e; omega)
          have HRW8 := Lib.hid hrw8
          have HROWJ : Hid (RowIs ((w6.setCell ⟨w5.heap.size, 1, none⟩ (.int .i64 m)).alloc (.cells #[.string ⟨kk.toArray⟩, .int .i64 m] 42)) 2 (.slice Ap p.length cp) p.length (pgC p)) := Lib.hid hrw8.1
          have HR8 : Hid (RfS ((w6.setCell ⟨w5.heap.size, 1, none⟩ (.int .i64 m)).alloc (.cells #[.string ⟨kk.toArray⟩, .int .i64 m] 42)) g A cap bs o2) := Lib.hid ((hR6.touch ht7 (by have := HG5.out; omega) (fun a e hne => by have := HAB4.out a e hne; have := HOS5.out; omega)).below hb8)
          have HO8 : Hid (Only g w4 ((w6.setCell ⟨w5.heap.size, 1, none⟩ (.int .i64 m)).alloc (.cells #[.string ⟨kk.toArray⟩, .int .i64 m] 42))) := Lib.hid (((HO5.out.trans hO6).below_after (ht7.below (B := w4.heap.size) (fun k e => by have := HOS5.out; omega) (HO5.out.trans hO6).size) (Nat.le_refl _)).trans (Only.of_below hb8))
          have hpJ : (p.length : Int) ≤ 65 := by have := HPJ.out; omega
          clear hR6 hO6 hat6 ht7 hb8 hat8 hrw8 HNU hsz6
          go_wp2_with (at_builtin; refine wpList_append_row _ _ Tryz.underlying40 infoR rfl (by decide) (by decide) _ rfl _ _ 40 rfl p.length 1 (pgC p) [strV kk, .int .i64 m] _ _ rfl rfl HROWJ.out HSRC.out ?_ ?_)
          all_goals first | omega | skip
          intro v' w' hrow hgrow hblk
          obtain ⟨h5, h6⟩ := push_rows (r := ⟨kk, m⟩) HRW8.out HO8.out.size hrow hgrow (by rw [asz, HSZ6.out]; exact hblk)
          have HNEW : Hid (RowsIs w' w4.heap.size v' (p ++ [⟨kk, m⟩]) ∧ RfS w' g A cap bs o2 ∧ Only g w4 w' ∧ rowsR bs (min k 65) [] st2 = rowsR bs (min k 65 - (j + 1)) (p ++ [⟨kk, m⟩]) o2) := Lib.hid ⟨h5, HR4.out.keepB HR8.out h6 HAB4.out, HO8.out.below_after h6 (Nat.le_refl _), by rw [HCR.out, HM1.out]⟩
          have HPL2 : Hid ((p ++ [(⟨kk, m⟩ : Row)]).length = j + 1) := Lib.hid (by rw [List.length_append, HPJ.out]; rfl)
          clear hrow hgrow hblk h5 h6
          go_wp2_with fail
          go_roundw
          case rel => exact ⟨j + 1, p ++ [⟨kk, m⟩], o2, HLTJ.out, by go_num, HPL2.out, HNEW.out⟩
          case measure => have := HLTJ.out; simp [intOf]; omega
        · have HPLJ := Lib.hid (And.intro hpl hj)
          have hcase : j = k ∨ (j < k ∧ j = 65) ∨ (j < k ∧ j < 65 ∧ st' = none) := by
            by_cases h1 : j = k
            · exact .inl h1
            · by_cases h2 : j = 65
              · exact .inr (.inl ⟨by omega, h2⟩)
              · refine .inr (.inr ⟨by omega, by omega, ?_⟩)
                cases st' with
                | none => rfl
                | some q => exact absurd ⟨by omega, rfl⟩ hgoj
          rcases hcase with h1 | ⟨h1, h2⟩ | ⟨h1, h2, h3⟩
          · have hresR : rowsR bs (min k 65) [] st2 = (p, st') := by rw [hcontR, show min k 65 - j = 0 by omega]; rfl
            have jI : ¬ (j : Int) < (k : Int) := by omega
            clear h1
            have HRES := Lib.hid hresR
            have HRWX := Lib.hid hrwx
            have HRFX := Lib.hid hrfx
            have HOX := Lib.hid hox
            have hPL65 : p.length ≤ 65 := by omega
            obtain ⟨Ap, cp, rfl, _⟩ := hrwx.1.form
            clear hcontR hresR hrwx hrfx hox hgoj hpl
            by_cases h64k : 64 < k
            · have h64I : (64 : Int) < (k : Int) := by omega
              have HNO : Hid (pagesR bs (min n 257) [] st1 = none) := Lib.hid (by
                rw [HCONT.out, HM0.out, pagesR, HNK.out]
                simp only
                rw [if_pos h64k])
              go_wp2_with fail
              go_ret
              exact ⟨(HBW.out.trans (HO4.out.touch.below (fun k e => by have := HG.out; omega) HBW.out.size)).trans (HOX.out.touch.below (fun k e => by have := HG.out; omega) (Nat.le_trans HBW.out.size HO4.out.size)), .inl ⟨by rw [HNO.out]; rfl, rfl⟩⟩
            · have h64I : ¬ (64 : Int) < (k : Int) := by omega
              have hbx : Below w.heap.size w wx := (HBW.out.trans (HO4.out.touch.below (fun k e => by have := HG.out; omega) HBW.out.size)).trans (HOX.out.touch.below (fun k e => by have := HG.out; omega) (Nat.le_trans HBW.out.size HO4.out.size))
              have hS2 := (HS.out.1.touch HO4.out.touch (fun k hk => (HS.out.2.1 k hk).2)).touch HOX.out.touch (fun k hk => (HS.out.2.1 k hk).2)
              have hb3 := below_new (w := wx) (.cells #[.slice Ap p.length cp] 40)
              have hat3 := alloc_at wx (.cells #[.slice Ap p.length cp] 40)
              have hS3 := hS2.below hb3
              obtain ⟨Av, cv, hv, hcv1, hcv2, _⟩ := hS3.at_.row.form
              have ks : wx.cell? ⟨s, 1, none⟩ = some v := cell_of hS2.at_.head 1
              rw [hv] at ks
              have HSRC : Hid (Src Tryz.prog 1 29 (.slice (some ⟨wx.heap.size, 0, none⟩) 1 1) 1 [.slice Ap p.length cp] (wx.alloc (.cells #[.slice Ap p.length cp] 40))) := Lib.hid (Src.ofSlice _ Tryz.underlying29 ⟨wx.heap.size, 0, none⟩ 1 1 [.slice Ap p.length cp] rfl (fun jj u hu => by
                rw [add0, cell_of hat3 jj]
                simpa using hu) (fun u hu => by
                obtain rfl := List.mem_singleton.1 hu
                rfl))
              have HROW : Hid (RowIs (wx.alloc (.cells #[.slice Ap p.length cp] 40)) 1 (.slice Av P.length cv) P.length us) := Lib.hid (by rw [← hv]; exact hS3.at_.row)
              have HPUSH : Hid (∀ W' v2, RowIs W' 1 v2 (P.length + 1) (us ++ [.slice Ap p.length cp]) → (wx.alloc (.cells #[.slice Ap p.length cp] 40)).grownBy W' (Value.slice Av P.length cv).ownBlock → (v2.ownBlock = (Value.slice Av P.length cv).ownBlock ∨ v2.ownBlock = some (wx.heap.size + 1)) →
                  (W'.cell? ⟨s, 1, none⟩ = some (.slice Av P.length cv) ∧ W'.frozen? ⟨s, 1, none⟩ = false) ∧ RSt (W'.setCell ⟨s, 1, none⟩ v2) s most v2 (us ++ [.slice Ap p.length cp]) (P ++ [p]) ∧ (∀ k, ROwns s v2 (us ++ [.slice Ap p.length cp]) k → w.heap.size ≤ k ∧ k ≠ g) ∧ Below w.heap.size w (W'.setCell ⟨s, 1, none⟩ v2) ∧ RfS (W'.setCell ⟨s, 1, none⟩ v2) g A cap bs st') := Lib.hid (by
                intro W' v2 h1 h2 h3
                rw [← hv] at h2 h3
                have hsz := HBW.out.size
                have hsz4 := HO4.out.size
                have hszx := HOX.out.size
                have hgx : g < w4.heap.size := HG4.out
                obtain ⟨k1, k2, k3⟩ := hS3.push (RowOf.sl (HRWX.out.below hb3).1) (fun k hk e => by
                  have := HS.out.1.owns_lt k hk
                  have := rowOf_blk HRWX.out k e
                  omega) h1 h2 (by rw [asz]; exact h3)
                have hbel : Below w.heap.size wx (W'.setCell ⟨s, 1, none⟩ v2) := (hb3.mono (by omega)).trans (k3.below (fun k hk => (HS.out.2.1 k hk).1) (by rw [asz]; omega))
                have ht1 : Touch (fun k => v.ownBlock = some k) _ W' := Touch.grown (Touch.refl _ _) h2 (fun k e _ => e)
                have hhead1 : W'.heap[s]? = _ := (ht1.block s (heap_lt hS3.at_.head) hS3.off).trans hS3.at_.head
                refine ⟨⟨by rw [← hv]; exact cell_of hhead1 1, free0 hhead1 1⟩, k1, fun k hk => ?_, hbx.trans hbel, ?_⟩
                · rcases k2 k hk with h | h | h
                  · exact HS.out.2.1 k h
                  · have := rowOf_blk HRWX.out k h
                    exact ⟨by omega, by omega⟩
                  · rw [asz] at h
                    exact ⟨by omega, by omega⟩
                · exact (HRFX.out.below hb3).touch k3 (fun hk => (HS.out.2.1 g hk).2 rfl) (fun a e hne hk => by
                    have := HAB.out a e hne
                    have := (HS.out.2.1 a.block hk).1
                    omega))
              have HNXT : Hid (pagesR bs (min n 257) [] st1 = pagesR bs (min n 257 - (i + 1)) (P ++ [p]) st') := Lib.hid (by
                rw [HCONT.out, HM0.out, pagesR, HNK.out]
                simp only
                rw [if_neg h64k, HRES.out, HM0S.out])
              have HP64 : Hid (∀ x ∈ P ++ [p], x.length ≤ 64) := Lib.hid (fun x hx => by
                rcases List.mem_append.1 hx with h | h
                · exact HS.out.2.2 x h
                · obtain rfl := List.mem_singleton.1 h
                  have := HPLJ.out
                  omega)
              clear hbx hS2 hb3 hat3 hS3 hv
              unfold maxLen at hcv2
              have hPI : (P.length : Int) ≤ 257 := by have := HPL.out; omega
              go_wp2_with (at_builtin; refine wpList_append_row _ _ Tryz.underlying29 infoP rfl (by decide) (by decide) _ rfl _ _ 29 rfl P.length 1 us [.slice Ap p.length cp] _ _ rfl rfl HROW.out HSRC.out ?_ ?_)
              all_goals first | omega | skip
              intro v2 W' hrow hgrow hblk
              obtain ⟨⟨c1, f1⟩, hrest⟩ := HPUSH.out W' v2 hrow hgrow hblk
              have HRST := Lib.hid hrest
              obtain ⟨A9, c9, rfl, _⟩ := hrow.form
              have HPL2 : Hid ((P ++ [p]).length = i + 1) := Lib.hid (by rw [List.length_append, HPL.out]; rfl)
              clear hrow hgrow hblk hrest
              go_wp2_with fail
              go_roundw
              case rel => exact ⟨i + 1, P ++ [p], st', _, _, HLT.out, by go_num, HPL2.out, HRST.out.1, HRST.out.2.1, HP64.out, HRST.out.2.2.2, HRST.out.2.2.1, HNXT.out⟩
              case measure => have := HLT.out; simp [intOf]; omega
          · have hresR : rowsR bs (min k 65) [] st2 = (p, st') := by rw [hcontR, show min k 65 - j = 0 by omega]; rfl
            have jI : (j : Int) < (k : Int) := by omega
            have jJ : ¬ (j : Int) < 65 := by omega
            clear h1 h2
            have HRES := Lib.hid hresR
            have HRWX := Lib.hid hrwx
            have HRFX := Lib.hid hrfx
            have HOX := Lib.hid hox
            have hPL65 : p.length ≤ 65 := by omega
            obtain ⟨Ap, cp, rfl, _⟩ := hrwx.1.form
            clear hcontR hresR hrwx hrfx hox hgoj hpl
            by_cases h64k : 64 < k
            · have h64I : (64 : Int) < (k : Int) := by omega
              have HNO : Hid (pagesR bs (min n 257) [] st1 = none) := Lib.hid (by
                rw [HCONT.out, HM0.out, pagesR, HNK.out]
                simp only
                rw [if_pos h64k])
              go_wp2_with fail
              go_ret
              exact ⟨(HBW.out.trans (HO4.out.touch.below (fun k e => by have := HG.out; omega) HBW.out.size)).trans (HOX.out.touch.below (fun k e => by have := HG.out; omega) (Nat.le_trans HBW.out.size HO4.out.size)), .inl ⟨by rw [HNO.out]; rfl, rfl⟩⟩
            · exfalso; omega
          · have hresR : rowsR bs (min k 65) [] st2 = (p, st') := by rw [hcontR, h3, rowsR_none]
            have jI : (j : Int) < (k : Int) := by omega
            have jJ : (j : Int) < 65 := by omega
            obtain ⟨ec, kc, hec⟩ := hrfx.code
            rw [h3] at hec
            have hec1 : (ec == 0) = false := hec
            clear hec
            have HRES := Lib.hid hresR
            have HRWX := Lib.hid hrwx
            have HRFX := Lib.hid hrfx
            have HOX := Lib.hid hox
            have hPL65 : p.length ≤ 65 := by omega
            obtain ⟨Ap, cp, rfl, _⟩ := hrwx.1.form
            clear hcontR hresR hrwx hrfx hox hgoj hpl
            by_cases h64k : 64 < k
            · have h64I : (64 : Int) < (k : Int) := by omega
              have HNO : Hid (pagesR bs (min n 257) [] st1 = none) := Lib.hid (by
                rw [HCONT.out, HM0.out, pagesR, HNK.out]
                simp only
                rw [if_pos h64k])
              go_wp2_with fail
              go_ret
              exact ⟨(HBW.out.trans (HO4.out.touch.below (fun k e => by have := HG.out; omega) HBW.out.size)).trans (HOX.out.touch.below (fun k e => by have := HG.out; omega) (Nat.le_trans HBW.out.size HO4.out.size)), .inl ⟨by rw [HNO.out]; rfl, rfl⟩⟩
            · have h64I : ¬ (64 : Int) < (k : Int) := by omega
              have hbx : Below w.heap.size w wx := (HBW.out.trans (HO4.out.touch.below (fun k e => by have := HG.out; omega) HBW.out.size)).trans (HOX.out.touch.below (fun k e => by have := HG.out; omega) (Nat.le_trans HBW.out.size HO4.out.size))
              have hS2 := (HS.out.1.touch HO4.out.touch (fun k hk => (HS.out.2.1 k hk).2)).touch HOX.out.touch (fun k hk => (HS.out.2.1 k hk).2)
              have hb3 := below_new (w := wx) (.cells #[.slice Ap p.length cp] 40)
              have hat3 := alloc_at wx (.cells #[.slice Ap p.length cp] 40)
              have hS3 := hS2.below hb3
              obtain ⟨Av, cv, hv, hcv1, hcv2, _⟩ := hS3.at_.row.form
              have ks : wx.cell? ⟨s, 1, none⟩ = some v := cell_of hS2.at_.head 1
              rw [hv] at ks
              have HSRC : Hid (Src Tryz.prog 1 29 (.slice (some ⟨wx.heap.size, 0, none⟩) 1 1) 1 [.slice Ap p.length cp] (wx.alloc (.cells #[.slice Ap p.length cp] 40))) := Lib.hid (Src.ofSlice _ Tryz.underlying29 ⟨wx.heap.size, 0, none⟩ 1 1 [.slice Ap p.length cp] rfl (fun jj u hu => by
                rw [add0, cell_of hat3 jj]
                simpa using hu) (fun u hu => by
                obtain rfl := List.mem_singleton.1 hu
                rfl))
              have HROW : Hid (RowIs (wx.alloc (.cells #[.slice Ap p.length cp] 40)) 1 (.slice Av P.length cv) P.length us) := Lib.hid (by rw [← hv]; exact hS3.at_.row)
              have HPUSH : Hid (∀ W' v2, RowIs W' 1 v2 (P.length + 1) (us ++ [.slice Ap p.length cp]) → (wx.alloc (.cells #[.slice Ap p.length cp] 40)).grownBy W' (Value.slice Av P.length cv).ownBlock → (v2.ownBlock = (Value.slice Av P.length cv).ownBlock ∨ v2.ownBlock = some (wx.heap.size + 1)) →
                  (W'.cell? ⟨s, 1, none⟩ = some (.slice Av P.length cv) ∧ W'.frozen? ⟨s, 1, none⟩ = false) ∧ RSt (W'.setCell ⟨s, 1, none⟩ v2) s most v2 (us ++ [.slice Ap p.length cp]) (P ++ [p]) ∧ (∀ k, ROwns s v2 (us ++ [.slice Ap p.length cp]) k → w.heap.size ≤ k ∧ k ≠ g) ∧ Below w.heap.size w (W'.setCell ⟨s, 1, none⟩ v2) ∧ RfS (W'.setCell ⟨s, 1, none⟩ v2) g A cap bs st') := Lib.hid (by
                intro W' v2 h1 h2 h3
                rw [← hv] at h2 h3
                have hsz := HBW.out.size
                have hsz4 := HO4.out.size
                have hszx := HOX.out.size
                have hgx : g < w4.heap.size := HG4.out
                obtain ⟨k1, k2, k3⟩ := hS3.push (RowOf.sl (HRWX.out.below hb3).1) (fun k hk e => by
                  have := HS.out.1.owns_lt k hk
                  have := rowOf_blk HRWX.out k e
                  omega) h1 h2 (by rw [asz]; exact h3)
                have hbel : Below w.heap.size wx (W'.setCell ⟨s, 1, none⟩ v2) := (hb3.mono (by omega)).trans (k3.below (fun k hk => (HS.out.2.1 k hk).1) (by rw [asz]; omega))
                have ht1 : Touch (fun k => v.ownBlock = some k) _ W' := Touch.grown (Touch.refl _ _) h2 (fun k e _ => e)
                have hhead1 : W'.heap[s]? = _ := (ht1.block s (heap_lt hS3.at_.head) hS3.off).trans hS3.at_.head
                refine ⟨⟨by rw [← hv]; exact cell_of hhead1 1, free0 hhead1 1⟩, k1, fun k hk => ?_, hbx.trans hbel, ?_⟩
                · rcases k2 k hk with h | h | h
                  · exact HS.out.2.1 k h
                  · have := rowOf_blk HRWX.out k h
                    exact ⟨by omega, by omega⟩
                  · rw [asz] at h
                    exact ⟨by omega, by omega⟩
                · exact (HRFX.out.below hb3).touch k3 (fun hk => (HS.out.2.1 g hk).2 rfl) (fun a e hne hk => by
                    have := HAB.out a e hne
                    have := (HS.out.2.1 a.block hk).1
                    omega))
              have HNXT : Hid (pagesR bs (min n 257) [] st1 = pagesR bs (min n 257 - (i + 1)) (P ++ [p]) st') := Lib.hid (by
                rw [HCONT.out, HM0.out, pagesR, HNK.out]
                simp only
                rw [if_neg h64k, HRES.out, HM0S.out])
              have HP64 : Hid (∀ x ∈ P ++ [p], x.length ≤ 64) := Lib.hid (fun x hx => by
                rcases List.mem_append.1 hx with h | h
                · exact HS.out.2.2 x h
                · obtain rfl := List.mem_singleton.1 h
                  have := HPLJ.out
                  omega)
              clear hbx hS2 hb3 hat3 hS3 hv
              unfold maxLen at hcv2
              have hPI : (P.length : Int) ≤ 257 := by have := HPL.out; omega
              go_wp2_with (at_builtin; refine wpList_append_row _ _ Tryz.underlying29 infoP rfl (by decide) (by decide) _ rfl _ _ 29 rfl P.length 1 us [.slice Ap p.length cp] _ _ rfl rfl HROW.out HSRC.out ?_ ?_)
              all_goals first | omega | skip
              intro v2 W' hrow hgrow hblk
              obtain ⟨⟨c1, f1⟩, hrest⟩ := HPUSH.out W' v2 hrow hgrow hblk
              have HRST := Lib.hid hrest
              obtain ⟨A9, c9, rfl, _⟩ := hrow.form
              have HPL2 : Hid ((P ++ [p]).length = i + 1) := Lib.hid (by rw [List.length_append, HPL.out]; rfl)
              clear hrow hgrow hblk hrest
              go_wp2_with fail
              go_roundw
              case rel => exact ⟨i + 1, P ++ [p], st', _, _, HLT.out, by go_num, HPL2.out, HRST.out.1, HRST.out.2.1, HP64.out, HRST.out.2.2.2, HRST.out.2.2.1, HNXT.out⟩
              case measure => have := HLT.out; simp [intOf]; omega
    · have hcase : i = n ∨ (i < n ∧ i = 257) ∨ (i < n ∧ i < 257 ∧ st = none) := by
        by_cases h1 : i = n
        · exact .inl h1
        · by_cases h2 : i = 257
          · exact .inr (.inl ⟨by omega, h2⟩)
          · refine .inr (.inr ⟨by omega, by omega, ?_⟩)
            cases st with
            | none => rfl
            | some q => exact absurd ⟨by omega, rfl⟩ hgo
      rcases hcase with h1 | ⟨h1, h2⟩ | ⟨h1, h2, h3⟩
      · have hres : pagesR bs (min n 257) [] st1 = some (P, st) := by rw [hcont, show min n 257 - i = 0 by omega]; rfl
        have iI : ¬ (i : Int) < (n : Int) := by omega
        clear h1
        have HCONT : Hid (contR most n bs (pagesR bs (min n 257) [] st1) = contR most n bs (some (P, st))) := Lib.hid (by rw [hres])
        have HEND := Lib.hid (rend_u hRd)
        have HS := Lib.hid (And.intro hSt (And.intro hOwn h64))
        have HBW := Lib.hid hbw
        have hP257 : P.length ≤ 257 := by omega
        have HP257 := Lib.hid hP257
        clear hcont hres hSt hOwn h64 hRd hbw hPl hgo
        go_wp2_with fail
        refine (HEND.out).mono ?_
        rintro e w9 ⟨x, rfl, hx, hO9⟩
        have HB9 := Lib.hid (HBW.out.trans (hO9.touch.below (fun k e => by have := HG.out; omega) HBW.out.size))
        by_cases hse : st = some bs.length
        · obtain rfl : x = 0 := by
            rw [decide_eq_true hse] at hx
            simpa using hx
          by_cases hn256 : n ≤ 256
          · have hnI : ¬ (256 : Int) < (n : Int) := by omega
            have hS9 := HS.out.1.touch hO9.touch (fun k hk => (HS.out.2.1 k hk).2)
            have HH := Lib.hid (Holds_any hS9.at_ (by omega) (Nat.le_trans (flat_most P HS.out.2.2) (by omega)) (fun p hp => Nat.le_trans (HS.out.2.2 p hp) (by omega)) HM.out.2)
            have HS9 := Lib.hid hS9
            have HSE := Lib.hid hse
            clear hO9 hx hse hS9
            go_wp2_with fail
            refine (HH.out).mono ?_
            rintro e w10 ⟨rfl, hb10⟩
            have HB10 := Lib.hid (HB9.out.trans (hb10.mono HB9.out.size))
            have HS10 := Lib.hid (HS9.out.below hb10)
            clear hb10
            by_cases hh : holdsP most P
            · have hhd : decide (holdsP most P) = true := decide_eq_true hh
              rw [hhd]
              have HYES : Hid (contR most n bs (pagesR bs (min n 257) [] st1) = some P) := Lib.hid (by rw [HCONT.out]; unfold contR; simp only; rw [if_pos ⟨HSE.out, hn256, hh⟩])
              clear hhd hh
              go_wp2_with fail
              go_ret
              exact ⟨HB10.out, .inr ⟨P, s, v, us, HYES.out, rfl, HS10.out, fun k hk => (HS.out.2.1 k hk).1⟩⟩
            · have hhd : decide (holdsP most P) = false := decide_eq_false hh
              rw [hhd]
              have HNO : Hid (contR most n bs (pagesR bs (min n 257) [] st1) = none) := Lib.hid (by rw [HCONT.out]; unfold contR; simp only; rw [if_neg (fun h => hh h.2.2)])
              clear hhd hh
              go_wp2_with fail
              go_ret
              exact ⟨HB10.out, .inl ⟨HNO.out, rfl⟩⟩
          · have hnI : (256 : Int) < (n : Int) := by omega
            have HNO : Hid (contR most n bs (pagesR bs (min n 257) [] st1) = none) := Lib.hid (by rw [HCONT.out]; unfold contR; simp only; rw [if_neg (fun h => hn256 h.2.1)])
            clear hO9 hx hse
            go_wp2_with fail
            go_ret
            exact ⟨HB9.out, .inl ⟨HNO.out, rfl⟩⟩
        · have hx1 : (x == 0) = false := by rw [hx]; simpa using hse
          have hx2 : ¬ x = 0 := by simpa using hx1
          have HNO : Hid (contR most n bs (pagesR bs (min n 257) [] st1) = none) := Lib.hid (by rw [HCONT.out]; unfold contR; simp only; rw [if_neg (fun h => hse h.1)])
          clear hO9 hx hse
          go_wp2_with fail
          go_ret
          exact ⟨HB9.out, .inl ⟨HNO.out, rfl⟩⟩
      · have hres : pagesR bs (min n 257) [] st1 = some (P, st) := by rw [hcont, show min n 257 - i = 0 by omega]; rfl
        have iI : (i : Int) < (n : Int) := by omega
        have iJ : ¬ (i : Int) < 257 := by omega
        clear h1 h2
        have HCONT : Hid (contR most n bs (pagesR bs (min n 257) [] st1) = contR most n bs (some (P, st))) := Lib.hid (by rw [hres])
        have HEND := Lib.hid (rend_u hRd)
        have HS := Lib.hid (And.intro hSt (And.intro hOwn h64))
        have HBW := Lib.hid hbw
        have hP257 : P.length ≤ 257 := by omega
        have HP257 := Lib.hid hP257
        clear hcont hres hSt hOwn h64 hRd hbw hPl hgo
        go_wp2_with fail
        refine (HEND.out).mono ?_
        rintro e w9 ⟨x, rfl, hx, hO9⟩
        have HB9 := Lib.hid (HBW.out.trans (hO9.touch.below (fun k e => by have := HG.out; omega) HBW.out.size))
        by_cases hse : st = some bs.length
        · obtain rfl : x = 0 := by
            rw [decide_eq_true hse] at hx
            simpa using hx
          by_cases hn256 : n ≤ 256
          · exfalso; omega
          · have hnI : (256 : Int) < (n : Int) := by omega
            have HNO : Hid (contR most n bs (pagesR bs (min n 257) [] st1) = none) := Lib.hid (by rw [HCONT.out]; unfold contR; simp only; rw [if_neg (fun h => hn256 h.2.1)])
            clear hO9 hx hse
            go_wp2_with fail
            go_ret
            exact ⟨HB9.out, .inl ⟨HNO.out, rfl⟩⟩
        · have hx1 : (x == 0) = false := by rw [hx]; simpa using hse
          have hx2 : ¬ x = 0 := by simpa using hx1
          have HNO : Hid (contR most n bs (pagesR bs (min n 257) [] st1) = none) := Lib.hid (by rw [HCONT.out]; unfold contR; simp only; rw [if_neg (fun h => hse h.1)])
          clear hO9 hx hse
          go_wp2_with fail
          go_ret
          exact ⟨HB9.out, .inl ⟨HNO.out, rfl⟩⟩
      · have hres : pagesR bs (min n 257) [] st1 = some (P, st) := by rw [hcont, h3, pagesR_none]
        have iI : (i : Int) < (n : Int) := by omega
        have iJ : (i : Int) < 257 := by omega
        obtain ⟨ec, kc, hec⟩ := hRd.code
        rw [h3] at hec
        have hec1 : (ec == 0) = false := hec
        clear h1 h2 h3 hec
        have HCONT : Hid (contR most n bs (pagesR bs (min n 257) [] st1) = contR most n bs (some (P, st))) := Lib.hid (by rw [hres])
        have HEND := Lib.hid (rend_u hRd)
        have HS := Lib.hid (And.intro hSt (And.intro hOwn h64))
        have HBW := Lib.hid hbw
        have hP257 : P.length ≤ 257 := by omega
        have HP257 := Lib.hid hP257
        clear hcont hres hSt hOwn h64 hRd hbw hPl hgo
        go_wp2_with fail
        refine (HEND.out).mono ?_
        rintro e w9 ⟨x, rfl, hx, hO9⟩
        have HB9 := Lib.hid (HBW.out.trans (hO9.touch.below (fun k e => by have := HG.out; omega) HBW.out.size))
        by_cases hse : st = some bs.length
        · obtain rfl : x = 0 := by
            rw [decide_eq_true hse] at hx
            simpa using hx
          by_cases hn256 : n ≤ 256
          · have hnI : ¬ (256 : Int) < (n : Int) := by omega
            have hS9 := HS.out.1.touch hO9.touch (fun k hk => (HS.out.2.1 k hk).2)
            have HH := Lib.hid (Holds_any hS9.at_ (by omega) (Nat.le_trans (flat_most P HS.out.2.2) (by omega)) (fun p hp => Nat.le_trans (HS.out.2.2 p hp) (by omega)) HM.out.2)
            have HS9 := Lib.hid hS9
            have HSE := Lib.hid hse
            clear hO9 hx hse hS9
            go_wp2_with fail
            refine (HH.out).mono ?_
            rintro e w10 ⟨rfl, hb10⟩
            have HB10 := Lib.hid (HB9.out.trans (hb10.mono HB9.out.size))
            have HS10 := Lib.hid (HS9.out.below hb10)
            clear hb10
            by_cases hh : holdsP most P
            · have hhd : decide (holdsP most P) = true := decide_eq_true hh
              rw [hhd]
              have HYES : Hid (contR most n bs (pagesR bs (min n 257) [] st1) = some P) := Lib.hid (by rw [HCONT.out]; unfold contR; simp only; rw [if_pos ⟨HSE.out, hn256, hh⟩])
              clear hhd hh
              go_wp2_with fail
              go_ret
              exact ⟨HB10.out, .inr ⟨P, s, v, us, HYES.out, rfl, HS10.out, fun k hk => (HS.out.2.1 k hk).1⟩⟩
            · have hhd : decide (holdsP most P) = false := decide_eq_false hh
              rw [hhd]
              have HNO : Hid (contR most n bs (pagesR bs (min n 257) [] st1) = none) := Lib.hid (by rw [HCONT.out]; unfold contR; simp only; rw [if_neg (fun h => hh h.2.2)])
              clear hhd hh
              go_wp2_with fail
              go_ret
              exact ⟨HB10.out, .inl ⟨HNO.out, rfl⟩⟩
          · have hnI : (256 : Int) < (n : Int) := by omega
            have HNO : Hid (contR most n bs (pagesR bs (min n 257) [] st1) = none) := Lib.hid (by rw [HCONT.out]; unfold contR; simp only; rw [if_neg (fun h => hn256 h.2.1)])
            clear hO9 hx hse
            go_wp2_with fail
            go_ret
            exact ⟨HB9.out, .inl ⟨HNO.out, rfl⟩⟩
        · have hx1 : (x == 0) = false := by rw [hx]; simpa using hse
          have hx2 : ¬ x = 0 := by simpa using hx1
          have HNO : Hid (contR most n bs (pagesR bs (min n 257) [] st1) = none) := Lib.hid (by rw [HCONT.out]; unfold contR; simp only; rw [if_neg (fun h => hse h.1)])
          clear hO9 hx hse
          go_wp2_with fail
          go_ret
          exact ⟨HB9.out, .inl ⟨HNO.out, rfl⟩⟩
end Go.Proofs.YtkkembbeejlomaaGreatDoor
