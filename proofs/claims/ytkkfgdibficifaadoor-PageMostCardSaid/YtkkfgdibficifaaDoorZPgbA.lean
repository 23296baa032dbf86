/- PageMost, its walk. -/
import Derived.Test.YtkkfgdibficifaaDoorZPagX
import Derived.Test.YtkkfgdibficifaaDoorZPagZ
set_option linter.unusedSimpArgs false
set_option linter.unusedVariables false
set_option linter.unnecessarySimpa false
namespace Go.Proofs.YtkkfgdibficifaaDoor
open Go.RowKit Go.Shelf Go.Sort Go.Lib

def keyOf (i : Nat) : K := [97 + UInt8.ofNat (i / 16), 97 + UInt8.ofNat (i % 16)]
theorem key_bytes {i : Nat} (h : i < 256) : (97 + UInt8.ofNat (i / 16)).toNat = 97 + i / 16 ∧ (97 + UInt8.ofNat (i % 16)).toNat = 97 + i % 16 := by
  have h1 : i / 16 < 16 := by omega
  have h2 : i % 16 < 16 := by omega
  have h3 : ∀ n < 16, (97 + UInt8.ofNat n).toNat = 97 + n := by decide
  exact ⟨h3 _ h1, h3 _ h2⟩
theorem key_inj {i j : Nat} (hi : i < 256) (hj : j < 256) (h : keyOf i = keyOf j) : i = j := by
  unfold keyOf at h
  injection h with h1 h2
  injection h2 with h2 _
  obtain ⟨a1, a2⟩ := key_bytes hi
  obtain ⟨b1, b2⟩ := key_bytes hj
  rw [h1, b1] at a1
  rw [h2, b2] at a2
  omega
theorem key_conv (w : World) {i : Nat} (h : i < 256) :
    (convert 42 9 (.slice (some ⟨w.heap.size, 0, none⟩) 2 2)).run Tryd.prog (w.alloc (.cells #[.int .u8 (97 + (i : Int) / 16), .int .u8 (97 + (i : Int) % 16)] 5)) = .ok (.string ⟨(keyOf i).toArray⟩) (w.alloc (.cells #[.int .u8 (97 + (i : Int) / 16), .int .u8 (97 + (i : Int) % 16)] 5)) ∧
    Below w.heap.size w (w.alloc (.cells #[.int .u8 (97 + (i : Int) / 16), .int .u8 (97 + (i : Int) % 16)] 5)) := by
  refine ⟨?_, below_new _⟩
  obtain ⟨a1, a2⟩ := key_bytes h
  refine run_convert_bytes_back _ 42 9 5 ⟨w.heap.size, 0, none⟩ 2 (keyOf i) Tryd.underlying42 Tryd.underlying5 Tryd.underlying9 (fun j hj => ?_)
  have hj2 : j < 2 := hj
  have : j = 0 ∨ j = 1 := by omega
  rcases this with rfl | rfl
  · show World.cell? _ ⟨w.heap.size, 0, none⟩ = some (.int .u8 ((97 + UInt8.ofNat (i / 16)).toNat : Nat))
    rw [a1, cell_of (alloc_at w _) 0]
    simp
  · show World.cell? _ ⟨w.heap.size, 0 + 1, none⟩ = some (.int .u8 ((97 + UInt8.ofNat (i % 16)).toNat : Nat))
    rw [a2, cell_of (alloc_at w _) (0 + 1)]
    simp
theorem put_next {most : Nat} {P : List (List Row)} (hF : Fine most P) {i : Nat} (hi : i < 256) (hl : P.flatten.length = i) (hk : ∀ k, (∃ r ∈ P.flatten, r.k = k) ↔ ∃ j < i, k = keyOf j) :
    (putP most P ⟨keyOf i, i⟩).2 = 0 ∧ (putP most P ⟨keyOf i, i⟩).1.flatten.length = i + 1 ∧ ∀ k, (∃ r ∈ (putP most P ⟨keyOf i, i⟩).1.flatten, r.k = k) ↔ ∃ j < i + 1, k = keyOf j := by
  have hno : (findP P (keyOf i)).2.2 = false := by
    refine (find_not hF).2 fun r hr e => ?_
    obtain ⟨j, hj, e2⟩ := (hk (keyOf i)).1 ⟨r, hr, e⟩
    have := key_inj hi (by omega) e2
    omega
  obtain ⟨h1, h2, h3⟩ := put_ok hF (x := ⟨keyOf i, i⟩) (by show (keyOf i).length ≤ 16; unfold keyOf; simp) (.inr (by omega))
  refine ⟨h1, ?_, fun k => ?_⟩
  · rw [h3, hl]
    show i + (if (findP P (keyOf i)).2.2 then 0 else 1) = i + 1
    rw [hno]
    rfl
  · constructor
    · rintro ⟨r, hr, e⟩
      rcases (h2 r).1 hr with rfl | ⟨hr, _⟩
      · exact ⟨i, by omega, e.symm⟩
      · obtain ⟨j, hj, e2⟩ := (hk k).1 ⟨r, hr, e⟩
        exact ⟨j, by omega, e2⟩
    · rintro ⟨j, hj, e⟩
      by_cases hji : j = i
      · subst hji
        exact ⟨_, (h2 _).2 (.inl rfl), e.symm⟩
      · obtain ⟨r, hr, e2⟩ := (hk k).2 ⟨j, by omega, e⟩
        refine ⟨r, (h2 r).2 (.inr ⟨hr, fun e3 => ?_⟩), e2⟩
        rw [e2, e] at e3
        exact hji (key_inj (by omega) hi e3)
theorem last_put {most : Nat} {P : List (List Row)} (hF : Fine most P) {k : K} (hk : k.length ≤ 16) (hl : P.flatten.length = 256) :
    (putP most P ⟨k, 7⟩).2 = (if (findP P k).2.2 then 0 else 5) ∧ (putP most P ⟨k, 7⟩).1.flatten.length = 256 := by
  cases ht : (findP P k).2.2 with
  | true =>
    obtain ⟨h1, _, h3⟩ := put_ok hF (x := ⟨k, 7⟩) hk (.inl ht)
    refine ⟨h1, ?_⟩
    rw [h3, hl]
    show 256 + (if (findP P k).2.2 then 0 else 1) = 256
    rw [ht]
    rfl
  | false =>
    rw [put_none (x := ⟨k, 7⟩) hk ht (by omega)]
    exact ⟨rfl, hl⟩
set_option maxRecDepth 100000 in
set_option maxHeartbeats 4000000 in
theorem law_most {w : World} (hG : Glob w) (most : Int) (k : ByteArray) :
    Calls Tryd.prog 4 #[.int .i64 most, .string k] w fun e w' => e = .returned (.bool true) ∧ Below w.heap.size w w' := by
  have HG := Lib.hid (fun W (hW : Below w.heap.size w W) => awake_any (hG.below hW))
  have HN := Lib.hid (fun m hm => sr_new (w := w) hG (most := m) hm)
  clear hG
  go_enter Tryd.func4, Tryd.ntmps4
  by_cases h1 : most < 2
  · go_wp2_with fail
    refine (HG.out _ (Below.refl _ _)).mono ?_
    rintro e w2 ⟨rfl, hb⟩
    have HB := Lib.hid hb
    clear hb
    go_wp2_with fail
    go_ret
    exact ⟨rfl, HB.out⟩
  · by_cases h2 : 64 < most
    · go_wp2_with fail
      refine (HG.out _ (Below.refl _ _)).mono ?_
      rintro e w2 ⟨rfl, hb⟩
      have HB := Lib.hid hb
      clear hb
      go_wp2_with fail
      go_ret
      exact ⟨rfl, HB.out⟩
    · obtain ⟨m, rfl⟩ : ∃ m : Nat, most = m := ⟨most.toNat, by omega⟩
      have hm : 2 ≤ m ∧ m ≤ 64 := by omega
      have hsplit : ∃ kk : K, kk.length ≤ 16 ∧ ((16 < k.size ∧ k.extract 0 16 = ⟨kk.toArray⟩) ∨ (k.size ≤ 16 ∧ k = ⟨kk.toArray⟩)) := by
        by_cases h : 16 < k.size
        · refine ⟨(k.extract 0 16).data.toList, ?_, .inl ⟨h, rfl⟩⟩
          have : (k.extract 0 16).size ≤ 16 := by rw [ByteArray.size_extract]; omega
          simpa using this
        · refine ⟨k.data.toList, ?_, .inr ⟨by omega, rfl⟩⟩
          have : k.size ≤ 16 := by omega
          simpa using this
      obtain ⟨kk, hkl, ⟨h3, hkk⟩ | ⟨h3, hkk⟩⟩ := hsplit
      · have h3I : (16 : Int) < (k.size : Int) := by omega
        go_wp2_with fail
        refine (HN.out m hm).mono ?_
        rintro e w1 ⟨s, rfl, hs⟩
        have HS := Lib.hid hs
        clear hs HN
        go_wp2_with fail
        go_loopw [7] (fun iv wr => ∃ (i : Nat) (P : List (List Row)), i ≤ 256 ∧ iv = .int .i64 i ∧ P.flatten.length = i ∧ (∀ k, (∃ r ∈ P.flatten, r.k = k) ↔ ∃ j < i, k = keyOf j) ∧ Sr w wr s m P) (fun iv _ => 256 - (intOf iv).toNat)
        case atStart => exact ⟨0, [], Nat.zero_le _, rfl, rfl, fun k => by simp, HS.out⟩
        case round =>
          obtain ⟨i, P, hi, rfl, hl, hkeys, hs⟩ := hrel
          by_cases hlt : i < 256
          · have hiI : (i : Int) < 256 := by omega
            obtain ⟨hcv, hbn⟩ := key_conv wr hlt
            have hPU := (hs.keep hbn).put (k := keyOf i) (n := i) (by unfold keyOf maxLen; simp)
            obtain ⟨hp1, hp2⟩ := put_next hs.fine hlt hl hkeys
            rw [hp1] at hPU
            simp only [strV] at hPU
            have HPU := Lib.hid hPU
            clear hPU hp1 hs hbn hkeys hl
            have HP2 := Lib.hid hp2
            clear hp2
            have hw : IntKind.i64.wrap ((i : Int) + 1) = (i : Int) + 1 := IntWalk.i64_in _ (by omega)
            go_wp2_with fail
            refine (HPU.out).mono ?_
            rintro e w3 ⟨rfl, h3⟩
            have H3 := Lib.hid h3
            clear h3 HPU hcv
            go_wp2_with fail
            go_roundw
            case rel => exact ⟨i + 1, _, by omega, by go_num, HP2.out.1, HP2.out.2, H3.out⟩
            case measure => simp [intOf]; omega
          · obtain rfl : i = 256 := by omega
            have HGT := Lib.hid (hs.get (k := kk))
            have hfin := last_put hs.fine hkl hl (k := kk)
            rw [get_there] at HGT
            generalize (getP P kk).1 = gv at HGT
            generalize (findP P kk).2.2 = t at HGT hfin
            simp only [strV] at HGT
            have HF := Lib.hid hfin
            have HPU := Lib.hid (fun W (hW : Below wr.heap.size wr W) => (hs.keep hW).put (k := kk) (n := 7) (by unfold maxLen; omega))
            simp only [strV] at HPU
            clear hfin hs hkeys hl
            go_wp2_with fail
            refine (HGT.out).mono ?_
            rintro e w3 ⟨rfl, hb3⟩
            have HB3 := Lib.hid hb3
            clear hb3 HGT
            go_wp2_with fail
            refine (HPU.out _ HB3.out).mono ?_
            rintro e w4 ⟨rfl, h4⟩
            have HLE := Lib.hid (fun W (hW : Below w4.heap.size w4 W) => (h4.keep hW).len)
            have HB4 := Lib.hid h4.below
            rw [HF.out.2] at HLE
            rw [HF.out.1]
            clear h4 HPU HF HB3
            cases t
            all_goals
              simp only [if_true, if_false]
              go_wp2_with fail
              refine (HLE.out _ (Below.refl _ _)).mono ?_
              rintro e w5 ⟨rfl, hb5⟩
              have HB5 := Lib.hid (HB4.out.trans (hb5.mono HB4.out.size))
              clear hb5 HLE
              go_wp2_with fail
              refine (HG.out _ HB5.out).mono ?_
              rintro e w6 ⟨rfl, hb6⟩
              have HB6 := Lib.hid (HB5.out.trans (hb6.mono HB5.out.size))
              clear hb6
              go_wp2_with fail
              go_ret
              exact ⟨rfl, HB6.out⟩
      · have h3I : ¬ (16 : Int) < (k.size : Int) := by omega
        go_wp2_with fail
        refine (HN.out m hm).mono ?_
        rintro e w1 ⟨s, rfl, hs⟩
        have HS := Lib.hid hs
        clear hs HN
        go_wp2_with fail
        subst hkk
        go_loopw [7] (fun iv wr => ∃ (i : Nat) (P : List (List Row)), i ≤ 256 ∧ iv = .int .i64 i ∧ P.flatten.length = i ∧ (∀ k, (∃ r ∈ P.flatten, r.k = k) ↔ ∃ j < i, k = keyOf j) ∧ Sr w wr s m P) (fun iv _ => 256 - (intOf iv).toNat)
        case atStart => exact ⟨0, [], Nat.zero_le _, rfl, rfl, fun k => by simp, HS.out⟩
        case round =>
          obtain ⟨i, P, hi, rfl, hl, hkeys, hs⟩ := hrel
          by_cases hlt : i < 256
          · have hiI : (i : Int) < 256 := by omega
            obtain ⟨hcv, hbn⟩ := key_conv wr hlt
            have hPU := (hs.keep hbn).put (k := keyOf i) (n := i) (by unfold keyOf maxLen; simp)
            obtain ⟨hp1, hp2⟩ := put_next hs.fine hlt hl hkeys
            rw [hp1] at hPU
            simp only [strV] at hPU
            have HPU := Lib.hid hPU
            clear hPU hp1 hs hbn hkeys hl
            have HP2 := Lib.hid hp2
            clear hp2
            have hw : IntKind.i64.wrap ((i : Int) + 1) = (i : Int) + 1 := IntWalk.i64_in _ (by omega)
            go_wp2_with fail
            refine (HPU.out).mono ?_
            rintro e w3 ⟨rfl, h3⟩
            have H3 := Lib.hid h3
            clear h3 HPU hcv
            go_wp2_with fail
            go_roundw
            case rel => exact ⟨i + 1, _, by omega, by go_num, HP2.out.1, HP2.out.2, H3.out⟩
            case measure => simp [intOf]; omega
          · obtain rfl : i = 256 := by omega
            have HGT := Lib.hid (hs.get (k := kk))
            have hfin := last_put hs.fine hkl hl (k := kk)
            rw [get_there] at HGT
            generalize (getP P kk).1 = gv at HGT
            generalize (findP P kk).2.2 = t at HGT hfin
            simp only [strV] at HGT
            have HF := Lib.hid hfin
            have HPU := Lib.hid (fun W (hW : Below wr.heap.size wr W) => (hs.keep hW).put (k := kk) (n := 7) (by unfold maxLen; omega))
            simp only [strV] at HPU
            clear hfin hs hkeys hl
            go_wp2_with fail
            refine (HGT.out).mono ?_
            rintro e w3 ⟨rfl, hb3⟩
            have HB3 := Lib.hid hb3
            clear hb3 HGT
            go_wp2_with fail
            refine (HPU.out _ HB3.out).mono ?_
            rintro e w4 ⟨rfl, h4⟩
            have HLE := Lib.hid (fun W (hW : Below w4.heap.size w4 W) => (h4.keep hW).len)
            have HB4 := Lib.hid h4.below
            rw [HF.out.2] at HLE
            rw [HF.out.1]
            clear h4 HPU HF HB3
            cases t
            all_goals
              simp only [if_true, if_false]
              go_wp2_with fail
              refine (HLE.out _ (Below.refl _ _)).mono ?_
              rintro e w5 ⟨rfl, hb5⟩
              have HB5 := Lib.hid (HB4.out.trans (hb5.mono HB4.out.size))
              clear hb5 HLE
              go_wp2_with fail
              refine (HG.out _ HB5.out).mono ?_
              rintro e w6 ⟨rfl, hb6⟩
              have HB6 := Lib.hid (HB5.out.trans (hb6.mono HB5.out.size))
              clear hb6
              go_wp2_with fail
              go_ret
              exact ⟨rfl, HB6.out⟩
end Go.Proofs.YtkkfgdibficifaaDoor
