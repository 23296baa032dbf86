/- PagePlays, its walk. (written by genpgpg.py) -/
import Derived.Test.YtkkembbeejlomaaGreatDoorZPgpE
import Derived.Test.YtkkembbeejlomaaGreatDoorZPgpD
set_option linter.unusedSimpArgs false
set_option linter.unusedVariables false
set_option linter.unnecessarySimpa false
namespace Go.Proofs.YtkkembbeejlomaaGreatDoor
open Go.RowKit Go.Shelf Go.Sort Go.Lib

/-- A slice of calls that was given; their numbers are numbers of 64 bits. -/
def OpnIs (w : World) (v : Value) (m : Nat) : Prop := ∃ A cap, v = .slice A m cap ∧ m ≤ cap ∧ cap ≤ maxLen ∧ ∀ i, i < m → ∃ (a : Addr) (kd n : Int) (x y : ByteArray), A = some a ∧ a.block < w.heap.size ∧ w.cell? (a.add (i * 4)) = some (.int .i64 kd) ∧ w.cell? ((a.add (i * 4)).add 1) = some (.string x) ∧ w.cell? ((a.add (i * 4)).add 2) = some (.string y) ∧ w.cell? ((a.add (i * 4)).add 3) = some (.int .i64 n) ∧ -9223372036854775808 ≤ n ∧ n ≤ 9223372036854775807
set_option maxRecDepth 100000 in
set_option maxHeartbeats 4000000 in
theorem New_not {w : World} (hG : Glob w) {a : Int} (h : a < 2 ∨ 64 < a) :
    Calls Tryz.prog 5 #[.int .i64 a] w fun e w' => e = .returned (.tuple #[.pointer none, .int .i64 2]) ∧ Below w.heap.size w w' := by
  have HE := Lib.hid (empty_not (w := w) h)
  have HCD := Lib.hid (fun W v (hb2 : Below w.heap.size w W) (he : ErrIs W [.nam ⟨#[109, 111, 115, 116]⟩, .num 2] v) => code_any (hG.below hb2) he (fun e h => by
    rcases List.mem_cons.1 h with h | h
    · cases h
    · have h := List.mem_singleton.1 h
      injection h with h
      rw [h]; decide) (by simp) (Below.refl _ _))
  clear hG
  go_enter Tryz.func5, Tryz.ntmps5
  go_wp2_with fail
  refine (HE.out).mono ?_
  rintro e w2 ⟨ev, rfl, he, hb2⟩
  have HC := Lib.hid (HCD.out _ _ hb2 he)
  have HB2 := Lib.hid hb2
  clear he hb2
  go_wp2_with fail
  refine (HC.out).mono ?_
  rintro e w3 ⟨rfl, hb3⟩
  have HB3 := Lib.hid (HB2.out.trans (hb3.mono HB2.out.size))
  clear hb3
  go_wp2_with fail
  refine bodyPost_ret (v := .tuple #[.pointer none, .int .i64 2]) (by simp [results, Tryz.results5, go_sem, codeOf]; rfl) rfl ?_
  exact ⟨rfl, HB3.out⟩
theorem Pair.same {w0 w : World} {F : Nat → Prop} {s r most : Nat} {P : List (List Row)} (h : Pair w0 w F s r most P P) (hok : RowsOk P) :
    Calls Tryz.prog 7 #[.pointer (some ⟨s, 0, none⟩), .pointer (some ⟨r, 0, none⟩)] w fun e w' => e = .returned (.bool true) ∧ Below w.heap.size w w' := by
  obtain ⟨vr, us, hr⟩ := h.rst
  exact same_any h.sr hr.at_ hok
theorem Pair.holds {w0 w : World} {F : Nat → Prop} {s r most : Nat} {P : List (List Row)} (h : Pair w0 w F s r most P P) (hok : RowsOk P) :
    Calls Tryz.prog 10 #[.pointer (some ⟨r, 0, none⟩)] w fun e w' => e = .returned (.bool true) ∧ Below w.heap.size w w' := by
  obtain ⟨vr, us, hr⟩ := h.rst
  have h1 := h.fineP.len
  have h2 := h.fineP.total
  have := Holds_any hr.at_ (by omega) (by omega) (fun p hp => by
    obtain ⟨i, hi⟩ := List.getElem?_of_mem hp
    have := (h.fineP.page hi).2.2
    omega) h.fineP.most.2
  rw [decide_eq_true (holds_of h.fineP hok)] at this
  exact this
theorem Held.same {w0 w : World} {F : Nat → Prop} {c rc most : Nat} {P : List (List Row)} (h : Held w0 w F c rc most P) (hb : Below w0.heap.size w0 w) (hg : Glob w0) :
    Calls Tryz.prog 7 #[.pointer (some ⟨c, 0, none⟩), .pointer (some ⟨rc, 0, none⟩)] w fun e w' => e = .returned (.bool true) ∧ Below w.heap.size w w' := by
  obtain ⟨v, L, vr, us, h1, h2, h3, h4⟩ := h.ex
  exact same_any ⟨⟨v, L, h1, fun k hk => (h3 k hk).1⟩, hb, hg, h.fine⟩ h2.at_ h.ok
theorem pair_new {w w1 : World} {s most : Nat} (h : Sr w w1 s most []) : Pair w (w1.alloc (.cells #[.int .i64 most, .slice none 0 0] 31)) (fun _ => False) s w1.heap.size most [] [] := by
  obtain ⟨v, L, h1, h2⟩ := h.st
  have hb := below_new (w := w1) (.cells #[.int .i64 most, .slice none 0 0] 31)
  have hs := h.below.size
  have hro : ∀ k, ROwns w1.heap.size (.slice none 0 0) [] k → k = w1.heap.size := fun k hk => by
    rcases hk with rfl | hk | ⟨u, hu, _⟩
    · rfl
    · cases hk
    · cases hu
  refine ⟨⟨v, L, .slice none 0 0, [], h1.below hb, ⟨⟨alloc_at w1 _, RowIs.nil _ _, fun i p hp => by simp at hp⟩, (fun e => by cases e), (fun u hu => by cases hu)⟩, fun k hk => ⟨h2 k hk, fun e => e, fun e => by have := hro k e; have := h1.owns_lt k hk; omega⟩, fun k hk => by have := hro k hk; omega, fun e => e⟩, fun k hk => hk.elim, h.below.trans (hb.mono hs), h.glob, h.fine, h.fine⟩
/-- What of a copy there is. -/
def CopyIs (w0 w : World) (F : Nat → Prop) (most : Nat) (cv wv : Value) : Prop := (cv = .pointer none ∧ ∃ x, wv = .pointer x) ∨ ∃ c rc P, cv = .pointer (some ⟨c, 0, none⟩) ∧ wv = .pointer (some ⟨rc, 0, none⟩) ∧ Held w0 w F c rc most P
set_option maxRecDepth 100000 in
set_option maxHeartbeats 16000000 in
theorem law_plays {w : World} (hG : Glob w) (a cut : Int) {l : Value} {nl : Nat} (hO : OpnIs w l nl) :
    Calls Tryz.prog 3 #[.int .i64 a, l, .int .i64 cut] w fun e w' => e = .returned (.bool true) ∧ Below w.heap.size w w' := by
  have HG := Lib.hid (fun W (hW : Below w.heap.size w W) => awake_any (hG.below hW))
  have HN := Lib.hid (fun m hm => sr_new (w := w) hG (most := m) hm)
  have HNN := Lib.hid (fun (h : a < 2 ∨ 64 < a) => New_not (w := w) hG h)
  obtain ⟨A, cap, rfl, hc1, hc2, hops⟩ := hO
  unfold maxLen at hc2
  have HO := Lib.hid hops
  clear hG hops
  go_enter Tryz.func3, Tryz.ntmps3
  by_cases h1 : a < 2
  · go_wp2_with fail
    refine (HNN.out (.inl h1)).mono ?_
    rintro e w1 ⟨rfl, hb1⟩
    have HB1 := Lib.hid hb1
    clear hb1
    go_wp2_with fail
    refine (HG.out _ HB1.out).mono ?_
    rintro e w2 ⟨rfl, hb⟩
    have HB := Lib.hid (HB1.out.trans (hb.mono HB1.out.size))
    clear hb
    go_wp2_with fail
    go_ret
    exact ⟨rfl, HB.out⟩
  by_cases h2 : 64 < a
  · go_wp2_with fail
    refine (HNN.out (.inr h2)).mono ?_
    rintro e w1 ⟨rfl, hb1⟩
    have HB1 := Lib.hid hb1
    clear hb1
    go_wp2_with fail
    refine (HG.out _ HB1.out).mono ?_
    rintro e w2 ⟨rfl, hb⟩
    have HB := Lib.hid (HB1.out.trans (hb.mono HB1.out.size))
    clear hb
    go_wp2_with fail
    go_ret
    exact ⟨rfl, HB.out⟩
  obtain ⟨most, rfl⟩ : ∃ m : Nat, a = m := ⟨a.toNat, by omega⟩
  have hm : 2 ≤ most ∧ most ≤ 64 := by omega
  go_wp2_with fail
  refine (HN.out most hm).mono ?_
  rintro e w1 ⟨s, rfl, hs⟩
  have hp := pair_new hs
  have HP := Lib.hid hp
  have HSM := Lib.hid (hp.same (fun p hp => by cases hp))
  clear hp hs HN HNN
  go_wp2_with fail
  refine (HSM.out).mono ?_
  rintro e w2 ⟨rfl, hb2⟩
  have HP2 := Lib.hid ((HP.out.keep hb2).keep (below_new (w := w2) (.cells #[.int .i64 0, .slice none 0 0] 31)))
  clear hb2 HSM HP
  generalize w1.heap.size = r at *
  go_wp2_with fail
  go_loopw [7, 10, 11, 12, 49] (fun sv kv cv wv iv wr => ∃ (i s : Nat) (P : List (List Row)) (F : Nat → Prop), i ≤ nl ∧ i ≤ 60 ∧ iv = .int .i64 i ∧ sv = .pointer (some ⟨s, 0, none⟩) ∧ kv = .bool true ∧ Pair w wr F s r most P P ∧ RowsOk P ∧ CopyIs w wr F most cv wv) (fun _ _ _ _ iv _ => nl - (intOf iv).toNat)
  case atStart => exact ⟨0, s, [], _, Nat.zero_le _, Nat.zero_le _, rfl, rfl, rfl, HP2.out, (fun p hp => by cases hp), .inl ⟨rfl, _, rfl⟩⟩
  case round =>
    obtain ⟨i, s, P, F, hi, hi2, rfl, rfl, rfl, hp, hok, hcp⟩ := hrel
    have HBW := Lib.hid hp.below
    have HP := Lib.hid hp
    have HOK := Lib.hid hok
    by_cases hlt : i < nl
    · by_cases hlt2 : i < 60
      · obtain ⟨a, kd, n, x, y, rfl, hab, k0, k1, k2, k3, hn⟩ := HO.out i hlt
        have hbw := hp.below
        replace k0 := (hbw.cell (p := a.add (i * 4)) (by rw [add_block]; exact hab)).trans k0
        replace k1 : wr.cell? ⟨(a.add (i * 4)).block, (a.add (i * 4)).off + 1, none⟩ = some (.string x) := (hbw.cell (p := (a.add (i * 4)).add 1) (by rw [add_block, add_block]; exact hab)).trans k1
        replace k2 : wr.cell? ⟨(a.add (i * 4)).block, (a.add (i * 4)).off + 2, none⟩ = some (.string y) := (hbw.cell (p := (a.add (i * 4)).add 2) (by rw [add_block, add_block]; exact hab)).trans k2
        replace k3 : wr.cell? ⟨(a.add (i * 4)).block, (a.add (i * 4)).off + 3, none⟩ = some (.int .i64 n) := (hbw.cell (p := (a.add (i * 4)).add 3) (by rw [add_block, add_block]; exact hab)).trans k3
        have hiI : (i : Int) < (nl : Int) := by omega
        have hiI2 : ¬ (60 : Int) ≤ (i : Int) := by omega
        have HLT := Lib.hid (And.intro hlt hlt2)
        have HNB := Lib.hid hn
        have hW1 := below_new (w := wr) (.cells #[.int .i64 kd, .string x, .string y, .int .i64 n] 34)
        have hat := alloc_at wr (.cells #[.int .i64 kd, .string x, .string y, .int .i64 n] 34)
        have HBX := Lib.hid (fun W (hW : Below (wr.alloc (.cells #[.int .i64 kd, .string x, .string y, .int .i64 n] 34)).heap.size (wr.alloc (.cells #[.int .i64 kd, .string x, .string y, .int .i64 n] 34)) W) => (hW.block wr.heap.size (by rw [asz]; omega)).trans hat)
        have HW1 := Lib.hid hW1
        clear hp hok hlt hlt2 hbw hW1 hat hn hi hi2
        by_cases hcut : (i : Int) = cut
        · obtain ⟨v, L, vr, us, g1, g2, g3, g4, g5⟩ := (HP.out.keep HW1.out).ex
          have HPW := Lib.hid (HP.out.keep HW1.out)
          have HEX := Lib.hid (And.intro g1 (And.intro g2 (And.intro g3 g4)))
          have HCO := Lib.hid (Copy_any g1 HP.out.fineP)
          have hlen := HP.out.fineP.len
          have hul := g2.at_.len
          obtain ⟨A2, c2, hv2, hd1, hd2, _⟩ := g2.at_.row.form
          unfold maxLen at hd2
          have ks : (wr.alloc (.cells #[.int .i64 kd, .string x, .string y, .int .i64 n] 34)).cell? ⟨r, 1, none⟩ = some vr := cell_of g2.at_.head 1
          have HKS := Lib.hid (fun W (hW : Below (wr.alloc (.cells #[.int .i64 kd, .string x, .string y, .int .i64 n] 34)).heap.size (wr.alloc (.cells #[.int .i64 kd, .string x, .string y, .int .i64 n] 34)) W) => (hW.cell (p := ⟨r, 1, none⟩) (World.block_lt_of_cell? _ _ ks)).trans ks)
          have HSR := Lib.hid (fun W (hW : Below (wr.alloc (.cells #[.int .i64 kd, .string x, .string y, .int .i64 n] 34)).heap.size (wr.alloc (.cells #[.int .i64 kd, .string x, .string y, .int .i64 n] 34)) W) => row_src (g2.at_.row.below hW) g2.at_.ones)
          rw [hv2] at HKS HSR
          have hHC : u11 = .pointer none ∨ ∃ b, u11 = .pointer (some ⟨b, 0, none⟩) := by
            rcases hcp with ⟨rfl, _⟩ | ⟨c, _, _, rfl, _⟩
            · exact .inl rfl
            · exact .inr ⟨c, rfl⟩
          clear g1 g2 g3 g4 g5 hcp ks
          obtain ⟨nP, hnP⟩ : ∃ nP, P.length = nP := ⟨_, rfl⟩
          rw [hnP] at hd1 HKS HSR hlen hul
          have HNP := Lib.hid hnP
          clear hnP hul
          subst hcut
          go_wp2_with fail
          refine (HCO.out).mono ?_
          rintro e w4 ⟨c, vc, Lc, rfl, hc1, hc2, hb4⟩
          have HC4 := Lib.hid (And.intro hc1 (And.intro hc2 hb4))
          have hq := below_new (w := w4) (.cells #[] 40)
          have hqa := alloc_at w4 (.cells #[] 40)
          have HQ := Lib.hid hq
          have ks4 := HKS.out _ (hb4.trans (hq.mono hb4.size))
          have HS4 := Lib.hid (HSR.out _ (hb4.trans (hq.mono hb4.size)))
          have hrow0 : RowIs (w4.alloc (.cells #[] 40)) 1 (.slice (some ⟨w4.heap.size, 0, none⟩) 0 0) 0 [] := .inr ⟨w4.heap.size, 0, rfl, rfl, Nat.le_refl _, heap_lt hqa, Nat.zero_le _, by unfold maxLen; omega, fun j u hj => by simp at hj, fun j hj => by omega⟩
          have HR0 := Lib.hid hrow0
          clear hc1 hc2 hb4 hq hqa hrow0
          go_wp2_with (at_builtin; refine wpList_append_row _ _ Tryz.underlying29 infoP rfl (by decide) (by decide) _ rfl _ _ 29 rfl 0 nP [] us _ _ rfl rfl HR0.out HS4.out ?_ ?_)
          all_goals first | omega | skip
          intro v5 w5 hr5 hg5 hb5
          have hB5 : Below w4.heap.size w4 w5 := HQ.out.trans (push_below hg5 (fun k e => by have e : w4.heap.size = k := Option.some.inj e; omega) (by rw [asz]; omega))
          have hown5 : ∀ k, v5.ownBlock = some k → w4.heap.size ≤ k := fun k e => by
            rcases hb5 with h | h
            · rw [h] at e
              have e : w4.heap.size = k := Option.some.inj e
              omega
            · rw [h] at e
              have e := Option.some.inj e
              omega
          obtain ⟨G, hpg, hhd⟩ := pair_copy (w2 := w) HPW.out HOK.out HEX.out.1 HEX.out.2.1 HEX.out.2.2.1 HEX.out.2.2.2 HC4.out.1 HC4.out.2.1 HC4.out.2.2 hB5 (by rw [HNP.out]; first | exact hr5 | simpa using hr5) hown5
          have HPX := Lib.hid hpg
          have HCX := Lib.hid hhd
          have HBZ := Lib.hid (HC4.out.2.2.trans ((hB5.trans ((below_new (w := w5) (.cells #[.int .i64 most, v5] 31)).mono hB5.size)).mono HC4.out.2.2.size))
          obtain ⟨A5, c5, rfl, _⟩ := hr5.form
          clear hr5 hg5 hb5 hB5 hown5 hpg hhd
          have h8 := HBX.out _ HBZ.out
          have c0 := cell_of h8 0
          have c1 := cell_of h8 1
          have c2 := cell_of h8 2
          have c3 := cell_of h8 3
          have HST := Lib.hid (step_any HPX.out HOK.out kd n HNB.out x y)
          clear h8
          go_wp2_with fail
          refine (HST.out).mono ?_
          rintro e w7 ⟨s', P', rfl, hp7, hok7, hk7⟩
          have HP7 := Lib.hid hp7
          have HOK7 := Lib.hid hok7
          have HK7 := Lib.hid hk7
          have HSA := Lib.hid (hp7.same hok7)
          have HHO := Lib.hid (fun W (hW : Below w7.heap.size w7 W) => (hp7.keep hW).holds hok7)
          clear hp7 hok7 hk7 c0 c1 c2 c3
          go_wp2_with fail
          refine (HSA.out).mono ?_
          rintro e w8 ⟨rfl, hb8⟩
          have HB8 := Lib.hid hb8
          clear hb8
          go_wp2_with fail
          refine (HHO.out _ HB8.out).mono ?_
          rintro e w9 ⟨rfl, hb9⟩
          have HB9 := Lib.hid (HB8.out.trans (hb9.mono HB8.out.size))
          clear hb9
          have HS9 := Lib.hid ((HCX.out.keeps (HK7.out.trans (Keeps.below HB9.out))).same (HP7.out.keep HB9.out).below HP7.out.glob)
          go_wp2_with fail
          refine (HS9.out).mono ?_
          rintro e w10 ⟨rfl, hb10⟩
          have HB10 := Lib.hid (HB9.out.trans (hb10.mono HB9.out.size))
          clear hb10
          go_wp2_with fail
          go_roundw
          case rel => exact ⟨i + 1, s', P', G, by have := HLT.out; omega, by have := HLT.out; omega, by go_num, rfl, rfl, HP7.out.keep HB10.out, HOK7.out, .inr ⟨_, _, _, rfl, rfl, HCX.out.keeps (HK7.out.trans (Keeps.below HB10.out))⟩⟩
          case measure => have := HLT.out; simp [intOf]; omega
        · rcases hcp with ⟨rfl, hx⟩ | ⟨c, rc, Pc, rfl, rfl, hh⟩
          · have HPX := Lib.hid (HP.out.keep HW1.out)
            have HBZ := Lib.hid (Below.refl (wr.alloc (.cells #[.int .i64 kd, .string x, .string y, .int .i64 n] 34)).heap.size (wr.alloc (.cells #[.int .i64 kd, .string x, .string y, .int .i64 n] 34)))
            have h8 := HBX.out _ HBZ.out
            have c0 := cell_of h8 0
            have c1 := cell_of h8 1
            have c2 := cell_of h8 2
            have c3 := cell_of h8 3
            have HST := Lib.hid (step_any HPX.out HOK.out kd n HNB.out x y)
            clear h8
            go_wp2_with fail
            refine (HST.out).mono ?_
            rintro e w7 ⟨s', P', rfl, hp7, hok7, hk7⟩
            have HP7 := Lib.hid hp7
            have HOK7 := Lib.hid hok7
            have HK7 := Lib.hid hk7
            have HSA := Lib.hid (hp7.same hok7)
            have HHO := Lib.hid (fun W (hW : Below w7.heap.size w7 W) => (hp7.keep hW).holds hok7)
            clear hp7 hok7 hk7 c0 c1 c2 c3
            go_wp2_with fail
            refine (HSA.out).mono ?_
            rintro e w8 ⟨rfl, hb8⟩
            have HB8 := Lib.hid hb8
            clear hb8
            go_wp2_with fail
            refine (HHO.out _ HB8.out).mono ?_
            rintro e w9 ⟨rfl, hb9⟩
            have HB9 := Lib.hid (HB8.out.trans (hb9.mono HB8.out.size))
            clear hb9
            go_wp2_with fail
            go_roundw
            case rel => exact ⟨i + 1, s', P', F, by have := HLT.out; omega, by have := HLT.out; omega, by go_num, rfl, rfl, HP7.out.keep HB9.out, HOK7.out, .inl ⟨rfl, hx⟩⟩
            case measure => have := HLT.out; simp [intOf]; omega
          · have HPX := Lib.hid (HP.out.keep HW1.out)
            have HCX := Lib.hid (hh.keeps (Keeps.below HW1.out))
            have HBZ := Lib.hid (Below.refl (wr.alloc (.cells #[.int .i64 kd, .string x, .string y, .int .i64 n] 34)).heap.size (wr.alloc (.cells #[.int .i64 kd, .string x, .string y, .int .i64 n] 34)))
            clear hh
            have h8 := HBX.out _ HBZ.out
            have c0 := cell_of h8 0
            have c1 := cell_of h8 1
            have c2 := cell_of h8 2
            have c3 := cell_of h8 3
            have HST := Lib.hid (step_any HPX.out HOK.out kd n HNB.out x y)
            clear h8
            go_wp2_with fail
            refine (HST.out).mono ?_
            rintro e w7 ⟨s', P', rfl, hp7, hok7, hk7⟩
            have HP7 := Lib.hid hp7
            have HOK7 := Lib.hid hok7
            have HK7 := Lib.hid hk7
            have HSA := Lib.hid (hp7.same hok7)
            have HHO := Lib.hid (fun W (hW : Below w7.heap.size w7 W) => (hp7.keep hW).holds hok7)
            clear hp7 hok7 hk7 c0 c1 c2 c3
            go_wp2_with fail
            refine (HSA.out).mono ?_
            rintro e w8 ⟨rfl, hb8⟩
            have HB8 := Lib.hid hb8
            clear hb8
            go_wp2_with fail
            refine (HHO.out _ HB8.out).mono ?_
            rintro e w9 ⟨rfl, hb9⟩
            have HB9 := Lib.hid (HB8.out.trans (hb9.mono HB8.out.size))
            clear hb9
            have HS9 := Lib.hid ((HCX.out.keeps (HK7.out.trans (Keeps.below HB9.out))).same (HP7.out.keep HB9.out).below HP7.out.glob)
            go_wp2_with fail
            refine (HS9.out).mono ?_
            rintro e w10 ⟨rfl, hb10⟩
            have HB10 := Lib.hid (HB9.out.trans (hb10.mono HB9.out.size))
            clear hb10
            go_wp2_with fail
            go_roundw
            case rel => exact ⟨i + 1, s', P', F, by have := HLT.out; omega, by have := HLT.out; omega, by go_num, rfl, rfl, HP7.out.keep HB10.out, HOK7.out, .inr ⟨_, _, _, rfl, rfl, HCX.out.keeps (HK7.out.trans (Keeps.below HB10.out))⟩⟩
            case measure => have := HLT.out; simp [intOf]; omega
      · obtain ⟨a, kd, n, x, y, rfl, hab, k0, k1, k2, k3, hn⟩ := HO.out i hlt
        have hbw := hp.below
        replace k0 := (hbw.cell (p := a.add (i * 4)) (by rw [add_block]; exact hab)).trans k0
        replace k1 : wr.cell? ⟨(a.add (i * 4)).block, (a.add (i * 4)).off + 1, none⟩ = some (.string x) := (hbw.cell (p := (a.add (i * 4)).add 1) (by rw [add_block, add_block]; exact hab)).trans k1
        replace k2 : wr.cell? ⟨(a.add (i * 4)).block, (a.add (i * 4)).off + 2, none⟩ = some (.string y) := (hbw.cell (p := (a.add (i * 4)).add 2) (by rw [add_block, add_block]; exact hab)).trans k2
        replace k3 : wr.cell? ⟨(a.add (i * 4)).block, (a.add (i * 4)).off + 3, none⟩ = some (.int .i64 n) := (hbw.cell (p := (a.add (i * 4)).add 3) (by rw [add_block, add_block]; exact hab)).trans k3
        have hiI : (i : Int) < (nl : Int) := by omega
        have hiI2 : (60 : Int) ≤ (i : Int) := by omega
        have HBA := Lib.hid (hbw.trans ((below_new (w := wr) (.cells #[.int .i64 kd, .string x, .string y, .int .i64 n] 34)).mono hbw.size))
        clear hp hok hcp hlt hlt2 hbw hn
        go_wp2_with fail
        refine (HG.out _ HBA.out).mono ?_
        rintro e w2 ⟨rfl, hb⟩
        have HB := Lib.hid (HBA.out.trans (hb.mono HBA.out.size))
        clear hb
        go_wp2_with fail
        go_ret
        exact ⟨rfl, HB.out⟩
    · obtain rfl : i = nl := by omega
      have HGA := Lib.hid (HG.out _ HBW.out)
      clear hp hok hcp
      go_wp2_with fail
      refine (HGA.out).mono ?_
      rintro e w2 ⟨rfl, hb⟩
      have HB := Lib.hid (HBW.out.trans (hb.mono HBW.out.size))
      clear hb
      go_wp2_with fail
      go_ret
      exact ⟨rfl, HB.out⟩
end Go.Proofs.YtkkembbeejlomaaGreatDoor
