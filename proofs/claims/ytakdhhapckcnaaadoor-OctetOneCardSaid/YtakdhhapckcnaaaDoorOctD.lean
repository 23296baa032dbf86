/- The reader of package octet, where what is read is there: Strs and End. -/
import Derived.Test.YtakdhhapckcnaaaDoorOctC
set_option linter.unusedSimpArgs false
set_option linter.unusedVariables false
set_option linter.unnecessarySimpa false
namespace Go.Proofs.YtakdhhapckcnaaaDoor
open Go.RowKit

def strP (most : Nat) (l : List UInt8) : Option (ByteArray × Nat) :=
  match natP l with
  | none => none
  | some (n, sz) => if most < n then none else if l.length < sz + n then none else some (⟨((l.drop sz).take n).toArray⟩, sz + n)
def textsP (most : Nat) : Nat → List UInt8 → Option (List ByteArray × Nat)
  | 0, _ => some ([], 0)
  | k + 1, l => match strP most l with
    | none => none
    | some (s, a) => match textsP most k (l.drop a) with
      | none => none
      | some (ss, b) => some (s :: ss, a + b)
theorem rstr_P {w : World} {g : Nat} {A : Option Addr} {cap : Nat} {bs : List UInt8} {pos k most : Nat} {s : ByteArray} (h : Rd w g A cap bs pos .nilIface []) (hp : strP most (bs.drop pos) = some (s, k)) (hm64 : most ≤ 1073741824) :
    Calls Tryd.prog 49 #[.pointer (some ⟨g, 0, none⟩), .int .i64 (most : Int)] w fun e w' => e = .returned (.string s) ∧ Rd w' g A cap bs (pos + k) .nilIface [] ∧ Only g w w' := by
  unfold strP at hp
  split at hp
  · cases hp
  · rename_i n sz hn
    split at hp
    · cases hp
    · rename_i h1
      split at hp
      · cases hp
      · rename_i h2
        rw [List.length_drop] at h2
        have hs := natP_size hn
        rw [List.length_drop] at hs
        have e := Option.some.inj hp
        have e1 : (⟨(((bs.drop pos).drop sz).take n).toArray⟩ : ByteArray) = s := congrArg Prod.fst e
        have e2 : sz + n = k := congrArg Prod.snd e
        subst e2
        rw [List.drop_drop] at e1
        subst e1
        have := rstr_ok h hn (by omega) hm64 (by have := h.pos_le; omega)
        rw [show pos + (sz + n) = pos + sz + n from by omega]
        exact this
theorem Rd.keepB {w0 w w' : World} {g : Nat} {A : Option Addr} {cap : Nat} {bs : List UInt8} {p0 pos : Nat} (h0 : Rd w0 g A cap bs p0 .nilIface []) (h : Rd w g A cap bs pos .nilIface []) (hb : Below w0.heap.size w w') : Rd w' g A cap bs pos .nilIface [] :=
  ⟨(hb.block g (ErrIs.lt h0.blk)).trans h.blk, h.err, h.le, h.max, h.pos_le, fun i b hi => by
    obtain ⟨gb, h1, h2, h3, h4⟩ := h.byt i b hi
    obtain ⟨gb', e1, _, e3, _⟩ := h0.byt i b hi
    obtain rfl : gb = gb' := by rw [h1] at e1; cases e1; rfl
    exact ⟨gb, h1, h2, Nat.lt_of_lt_of_le h3 hb.size, (hb.cell (p := ⟨gb, i, none⟩) e3).trans h4⟩⟩
theorem own_only {w w' : World} {base g : Nat} {e : TypeId} {size : Nat} {v : Value} {n : Nat} {xs : List Value} (h : w.ownsRow base e size v n xs) (ho : Only g w w') (hg : g < base) : w'.ownsRow base e size v n xs := by
  obtain ⟨h1, h2⟩ := h
  refine ⟨h1, ?_⟩
  rcases h2 with h2 | ⟨q, cap, cur, hv, hq, hh, r⟩
  · exact Or.inl h2
  · exact Or.inr ⟨q, cap, cur, hv, hq, (ho.block q (ErrIs.lt hh) (by omega)).trans hh, r⟩
theorem Only.below_after {B g : Nat} {a b c : World} (h : Only g a b) (hb : Below B b c) (hB : a.heap.size ≤ B) : Only g a c :=
  ⟨hb.os.trans h.os, hb.tape.trans h.tape, hb.output.trans h.output, Nat.le_trans h.size hb.size, fun i hi hne => (hb.block i (Nat.lt_of_lt_of_le hi hB)).trans (h.block i hi hne)⟩
set_option maxRecDepth 100000 in
set_option maxHeartbeats 2000000 in
theorem rstrs_ok {w : World} {g : Nat} {A : Option Addr} {cap : Nat} {bs : List UInt8} {pos n sz b many most : Nat} {ss : List ByteArray} (h : Rd w g A cap bs pos .nilIface []) (hp : natP (bs.drop pos) = some (n, sz)) (hmany : n ≤ many) (hm64 : many ≤ 1000)
    (ht : textsP most n (bs.drop (pos + sz)) = some (ss, b)) (hmost : most ≤ 1073741824) :
    Calls Tryd.prog 51 #[.pointer (some ⟨g, 0, none⟩), .int .i64 (many : Int), .int .i64 (most : Int)] w fun e w' => ∃ v, e = .returned v ∧ TxtIs w' v ss ∧ Rd w' g A cap bs (pos + sz + b) .nilIface [] ∧ Only g w w' := by
  have hN := count_ok h hp hmany (by omega)
  have HN := Lib.hid hN
  have H0 := Lib.hid h
  have HT := Lib.hid ht
  clear h hp hN ht
  have hn : (n : Int) ≤ 1000 := by omega
  have hn0 : (0 : Int) ≤ (n : Int) := by omega
  go_enter Tryd.func51, Tryd.ntmps51
  go_wp2_with fail
  refine (HN.out).mono ?_
  rintro e w1 ⟨rfl, hR, hO⟩
  have HR := Lib.hid hR
  have HO := Lib.hid hO
  clear hR hO
  go_wp2_with fail
  have HG0 := Lib.hid (ErrIs.lt H0.out.blk)
  obtain ⟨i0, hi, hz0, hz1, hz2⟩ := info_parts info9
  go_loopw [7, 8] (fun v i wr => ∃ (k p c : Nat) (ts rs : List ByteArray), i = .int .i64 (k : Int) ∧ Rd wr g A cap bs p .nilIface [] ∧ textsP most k (bs.drop p) = some (rs, c) ∧ p + c = pos + sz + b ∧ ts ++ rs = ss ∧ ts.length + k = n ∧ wr.ownsRow w.heap.size 9 1 v ts.length (ts.map Value.string) ∧ Only g w wr) (fun _ i _ => (intOf i).toNat)
  case atStart => exact ⟨n, pos + sz, b, [], ss, rfl, HR.out, HT.out, rfl, rfl, by simp, World.ownsRow_nil _ _ _ _, HO.out⟩
  case round =>
    obtain ⟨k, p, c, ts, rs, rfl, hRd, htx, hpc, hts, hlen, hown, hO⟩ := hrel
    cases k with
    | zero =>
      simp [textsP] at htx
      obtain ⟨rfl, rfl⟩ := htx
      have HRd := Lib.hid hRd
      have HOw := Lib.hid hown
      have HOn := Lib.hid hO
      have HTS := Lib.hid hts
      clear hRd hown hO hts
      go_wp2
      go_ret
      refine ⟨_, rfl, ?_, ?_, HOn.out⟩
      · have e := HTS.out
        rw [List.append_nil] at e
        subst e
        exact txt_of_own HOw.out
      · rw [← hpc]; exact HRd.out
    | succ k =>
      rw [textsP] at htx
      split at htx
      · cases htx
      · rename_i s a hs
        split at htx
        · cases htx
        · rename_i rs' c' hr
          have e := Option.some.inj htx
          have e1 : s :: rs' = rs := congrArg Prod.fst e
          have e2 : a + c' = c := congrArg Prod.snd e
          subst e1 e2
          rw [List.drop_drop] at hr
          have HRd := Lib.hid hRd
          have HOw := Lib.hid hown
          have HOn := Lib.hid hO
          have HTS := Lib.hid hts
          have HR' := Lib.hid hr
          have HST := Lib.hid (rstr_P hRd hs hmost)
          clear hRd hown hO hts e htx hs hr
          go_wp2_with fail
          refine (HST.out).mono ?_
          rintro e w2 ⟨rfl, hR2, hO2⟩
          have HR2 := Lib.hid hR2
          have HO2 := Lib.hid (HOn.out.trans hO2)
          have HOw2 := Lib.hid (own_only HOw.out hO2 HG0.out)
          have HGD := Lib.hid (good_yes hR2)
          have hsz2 : w.heap.size ≤ w2.heap.size := HO2.out.size
          clear hR2 hO2
          go_wp2_with fail
          refine (HGD.out).mono ?_
          rintro e w' ⟨rfl, rfl⟩
          go_wp2_with (at_builtin; refine wpList_append_own _ rfl _ _ 36 rfl w.heap.size 9 i0 _ 1 16 Tryd.underlying36 hi hz0 hz1 hz2 rfl (by decide) _ _ _ rfl (HOw2.out.alloc _) ⟨w2.heap.size, 0, none⟩ 1 1 [.string s] rfl rfl (one_new _ _ rfl _ _) (str_one _) ?_ ?_ ?_ ?_)
          · unfold maxLen; omega
          · omega
          · (try simp); omega
          intro v' w' hown' hgrow _
          have hB' : Below w.heap.size w2 w' := ((Below.refl _ _).alloc hsz2 _).grown hgrow (by simp; omega) (fun j hj => (HOw2.out.lt j hj).1)
          have HO' := Lib.hid hown'
          have HR3 := Lib.hid (H0.out.keepB HR2.out hB')
          have HO3 := Lib.hid (HO2.out.below_after hB' (Nat.le_refl _))
          clear hown' hgrow hB'
          go_wp2
          go_roundw
          case rel =>
            refine ⟨k, p + a, c', ts ++ [s], rs', by go_num, HR3.out, HR'.out, by omega, by rw [← HTS.out]; simp, by simp; omega, ?_, HO3.out⟩
            rw [List.length_append, List.map_append]
            exact HO'.out
          case measure => first | (simp [intOf]; done) | (simp [intOf]; omega)
set_option maxRecDepth 100000 in
set_option maxHeartbeats 1000000 in
theorem rend_ok {w : World} {g : Nat} {A : Option Addr} {cap : Nat} {bs : List UInt8} (hG : Glob w) (h : Rd w g A cap bs bs.length .nilIface []) :
    Calls Tryd.prog 56 #[.pointer (some ⟨g, 0, none⟩)] w fun e w' => e = .returned (.int .i64 0) ∧ Below w.heap.size w w' := by
  have HG := Lib.hid (good_yes h)
  have HL := Lib.hid (left_any h)
  have HE := Lib.hid (fun k => rerr_any (hG.below (below_drewN (Below.refl _ _) k)) (h.below (below_drewN (Below.refl _ _) k)) (fun e he => by simp at he) (by decide))
  clear h hG
  go_enter Tryd.func56, Tryd.ntmps56
  go_wp2_with fail
  refine (HG.out).mono ?_
  rintro e w' ⟨rfl, rfl⟩
  go_wp2_with fail
  refine (HL.out).mono ?_
  rintro e w2 ⟨rfl, k2, rfl⟩
  go_wp2_with fail
  refine (HE.out k2).mono ?_
  rintro e w3 ⟨rfl, hb⟩
  rw [show codeOf [] = 0 from rfl]
  have HB := Lib.hid ((below_drewN (Below.refl w.heap.size w) k2).trans hb)
  clear hb
  go_wp2
  go_ret
  exact ⟨rfl, HB.out⟩
theorem foldB_beB (j n : Nat) : foldB (beB j n) = n % 256 ^ j := by
  induction j generalizing n with
  | zero => simp [beB, foldB, Nat.mod_one]
  | succ j ih =>
    rw [beB, foldB_snoc, ih, Nat.pow_succ, Nat.mul_comm (256 ^ j), Nat.mod_mul]
    simp
    omega
theorem natP_natB (n : Nat) (hn : n ≤ 18446744073709551615) (rest : List UInt8) : natP (natB n ++ rest) = some (n, (natB n).length) := by
  have h8 := sizeB_le n hn
  have hlt : n / 256 ^ sizeB n = 0 := by
    have := mt (sizeB_spec n hn (sizeB n)).2 (by omega)
    exact Classical.byContradiction this
  have hlt2 : n < 256 ^ sizeB n := by
    rcases Nat.div_eq_zero_iff.1 hlt with h | h
    · exact absurd h (Nat.pos_iff_ne_zero.1 (Nat.pow_pos (by omega)))
    · exact h
  have hk : (UInt8.ofNat (sizeB n)).toNat = sizeB n := by simp; omega
  unfold natB
  rw [List.cons_append, natP, hk, if_neg (by omega), if_neg (by rw [List.length_append, beB_length]; omega), if_neg, List.take_left' (beB_length _ _), foldB_beB, Nat.mod_eq_of_lt hlt2]
  · rw [List.length_cons, beB_length]
  · rintro ⟨h0, h1⟩
    obtain ⟨j, hj⟩ : ∃ j, sizeB n = j + 1 := ⟨sizeB n - 1, by omega⟩
    rw [hj] at h1 hlt2
    rw [beB_cons] at h1
    have hne := (sizeB_spec n hn j).1 (by omega)
    have : n / 256 ^ j < 256 := by
      rw [Nat.div_lt_iff_lt_mul (Nat.pow_pos (by omega)), Nat.mul_comm, ← Nat.pow_succ]; exact hlt2
    generalize n / 256 ^ j = x at *
    rw [List.cons_append, List.getElem?_cons_zero] at h1
    have h3 := congrArg UInt8.toNat (Option.some.inj h1)
    rw [show (UInt8.ofNat (x % 256)).toNat = x % 256 from by simp] at h3
    have h4 : x % 256 = 0 := h3
    omega
theorem strP_strB {most : Nat} {s : ByteArray} (hs : s.size ≤ most) (hm : most ≤ 1073741824) (rest : List UInt8) : strP most (strB s ++ rest) = some (s, (strB s).length) := by
  have hl : s.data.toList.length = s.size := by simp
  unfold strP strB
  rw [List.append_assoc, natP_natB _ (by omega)]
  simp only
  rw [if_neg (by omega), if_neg (by simp only [List.length_append]; omega), List.drop_left' rfl, List.take_left' hl]
  simp
theorem textsP_strsB {most : Nat} (hm : most ≤ 1073741824) (ss : List ByteArray) (hs : ∀ s ∈ ss, s.size ≤ most) (rest : List UInt8) : textsP most ss.length (ss.flatMap strB ++ rest) = some (ss, (ss.flatMap strB).length) := by
  induction ss with
  | nil => rfl
  | cons x r ih =>
    rw [List.length_cons, textsP, List.flatMap_cons, List.append_assoc, strP_strB (hs x List.mem_cons_self) hm]
    simp only
    rw [List.drop_left' rfl, ih (fun s h => hs s (List.mem_cons_of_mem _ h))]
    simp
end Go.Proofs.YtakdhhapckcnaaaDoor
