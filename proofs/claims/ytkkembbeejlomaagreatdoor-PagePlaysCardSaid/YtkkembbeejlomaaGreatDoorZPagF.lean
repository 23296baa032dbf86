/- Rows, and slices.BinarySearchFunc over them. -/
import Derived.Test.YtkkembbeejlomaaGreatDoorZPagE
import Derived.Test.YtkkembbeejlomaaGreatDoorZShp
set_option linter.unusedSimpArgs false
set_option linter.unusedVariables false
set_option linter.unnecessarySimpa false
namespace Go.Proofs.YtkkembbeejlomaaGreatDoor
open Go.RowKit Go.Shelf Go.Sort Go.Lib

/-- A text's bytes. -/
abbrev K := List UInt8
structure Row where
  k : K
  n : Int
  deriving DecidableEq
def strV (k : K) : Value := .string ⟨k.toArray⟩
def rowV (r : Row) : List Value := [strV r.k, .int .i64 r.n]
def pgC (p : List Row) : List Value := p.flatMap rowV
theorem pgC_nil : pgC [] = [] := rfl
theorem pgC_cons (r : Row) (p : List Row) : pgC (r :: p) = rowV r ++ pgC p := rfl
theorem pgC_append (p q : List Row) : pgC (p ++ q) = pgC p ++ pgC q := by unfold pgC; simp
theorem pgC_len (p : List Row) : (pgC p).length = p.length * 2 := by
  induction p with
  | nil => rfl
  | cons r p ih => rw [pgC_cons, List.length_append, ih, List.length_cons]; show 2 + _ = _; omega
theorem pgC_take (p : List Row) (i : Nat) : (pgC p).take (i * 2) = pgC (p.take i) := by
  induction i generalizing p with
  | zero => simp [pgC_nil]
  | succ i ih =>
    cases p with
    | nil => rfl
    | cons r p =>
      rw [pgC_cons, show (i + 1) * 2 = 2 + i * 2 by omega, List.take_succ_cons, pgC_cons, List.take_append]
      have : (rowV r).length = 2 := rfl
      rw [this, List.take_of_length_le (by rw [this]; omega), show 2 + i * 2 - 2 = i * 2 by omega, ih]
theorem pgC_drop (p : List Row) (i : Nat) : (pgC p).drop (i * 2) = pgC (p.drop i) := by
  induction i generalizing p with
  | zero => simp
  | succ i ih =>
    cases p with
    | nil => rfl
    | cons r p =>
      rw [pgC_cons, show (i + 1) * 2 = 2 + i * 2 by omega, List.drop_succ_cons, List.drop_append]
      have : (rowV r).length = 2 := rfl
      rw [this, List.drop_of_length_le (by rw [this]; omega), show 2 + i * 2 - 2 = i * 2 by omega, ih, List.nil_append]
theorem pgC_at {p : List Row} {i : Nat} {r : Row} (h : p[i]? = some r) : (pgC p)[i * 2]? = some (strV r.k) ∧ (pgC p)[i * 2 + 1]? = some (.int .i64 r.n) := by
  have hd : pgC (p.drop i) = rowV r ++ pgC (p.drop (i + 1)) := by
    have hi := (List.getElem?_eq_some_iff.1 h).1
    rw [List.drop_eq_getElem_cons hi, (List.getElem?_eq_some_iff.1 h).2]
    rfl
  have e : ∀ j, (pgC p)[i * 2 + j]? = (pgC (p.drop i))[j]? := fun j => by rw [← pgC_drop, List.getElem?_drop]
  refine ⟨?_, ?_⟩
  · have := e 0
    rw [Nat.add_zero] at this
    rw [this, hd]; rfl
  · rw [e 1, hd]; rfl
theorem pgC_one (p : List Row) : ∀ u ∈ pgC p, u.oneCell' = true := fun u hu => by
  unfold pgC at hu
  obtain ⟨r, _, h⟩ := List.mem_flatMap.1 hu
  simp only [rowV, List.mem_cons, List.not_mem_nil, or_false] at h
  rcases h with rfl | rfl <;> rfl
/-! The order of texts. -/
theorem cmp_lt : ∀ (a b : K), Lib.compareBytes a b < 0 ↔ a < b
  | [], [] => by simp [Lib.compareBytes]
  | [], _ :: _ => by simp [Lib.compareBytes]
  | _ :: _, [] => by simp [Lib.compareBytes]
  | a :: x, b :: y => by
    unfold Lib.compareBytes
    rw [List.cons_lt_cons_iff]
    by_cases h1 : a < b
    · simp [h1]
    · by_cases h2 : b < a
      · have hne : a ≠ b := fun e => h1 (e ▸ h2)
        simp [h1, h2, hne]
      · have he : a = b := UInt8.le_antisymm (UInt8.not_lt.1 h2) (UInt8.not_lt.1 h1)
        simp [h1, h2, he, cmp_lt x y]
theorem cmp_eq0 : ∀ (a b : K), Lib.compareBytes a b = 0 ↔ a = b
  | [], [] => by simp [Lib.compareBytes]
  | [], _ :: _ => by simp [Lib.compareBytes]
  | _ :: _, [] => by simp [Lib.compareBytes]
  | a :: x, b :: y => by
    unfold Lib.compareBytes
    by_cases h1 : a < b
    · have hne : a ≠ b := fun e => UInt8.lt_irrefl a (e ▸ h1)
      simp [h1, hne]
    · by_cases h2 : b < a
      · have hne : a ≠ b := fun e => h1 (e ▸ h2)
        simp [h1, h2, hne]
      · have he : a = b := UInt8.le_antisymm (UInt8.not_lt.1 h2) (UInt8.not_lt.1 h1)
        simp [h1, h2, he, cmp_eq0 x y]
/-- How many rows stand ahead of a key; is it there? -/
def lowP (p : List Row) (k : K) : Nat := p.countP fun r => decide (r.k < k)
def hasP (p : List Row) (k : K) : Bool := match p[lowP p k]? with
  | some r => decide (r.k = k)
  | none => false
def Rise (p : List Row) : Prop := p.Pairwise fun a b => a.k < b.k
theorem lowP_le (p : List Row) (k : K) : lowP p k ≤ p.length := List.countP_le_length
theorem k_trans {a b c : K} (h : a < b) (h2 : b < c) : a < c := List.lt_trans h h2
theorem rise_low {p : List Row} (hp : Rise p) {k : K} {i : Nat} {r : Row} (h : p[i]? = some r) : i < lowP p k ↔ r.k < k := by
  unfold lowP
  induction p generalizing i with
  | nil => simp at h
  | cons x p ih =>
    obtain ⟨hx, hp⟩ := List.pairwise_cons.1 hp
    rw [List.countP_cons]
    cases i with
    | zero =>
      obtain rfl := Option.some.inj h
      by_cases hk : x.k < k
      · simp [hk]
      · have h0 : p.countP (fun r => decide (r.k < k)) = 0 := by
          rw [List.countP_eq_zero]
          intro y hy
          simp only [decide_eq_true_eq]
          exact fun e => hk (k_trans (hx y hy) e)
        simp [hk, h0]
    | succ i =>
      have h' : p[i]? = some r := by simpa using h
      have := ih hp h'
      by_cases hk : x.k < k
      · simp only [hk, decide_true, if_true]
        exact ⟨fun e => this.1 (by omega), fun e => by have := this.2 e; omega⟩
      · have hr : ¬ r.k < k := fun e => hk (k_trans (hx r (List.mem_of_getElem? h')) e)
        have h0 : p.countP (fun r => decide (r.k < k)) = 0 := by
          rw [List.countP_eq_zero]
          intro y hy
          simp only [decide_eq_true_eq]
          exact fun e => hk (k_trans (hx y hy) e)
        simp only [hk, decide_false, h0]
        constructor
        · intro e; simp at e
        · exact fun e => absurd e hr
set_option maxRecDepth 100000 in
set_option maxHeartbeats 1000000 in
theorem cmp_any {w : World} (a k : K) (n : Int) : Calls Tryz.prog 71 #[.agg #[strV a, .int .i64 n], strV k] w fun e w' => e = .returned (.int .i64 (Lib.compareBytes a k)) ∧ Below w.heap.size w w' := by
  have HC := Lib.hid (fun W => Any.strings_Compare Tryz.compareA ⟨a.toArray⟩ ⟨k.toArray⟩ W)
  unfold strV
  go_enter Tryz.func71, Tryz.ntmps71
  go_wp2_with fail
  refine (HC.out _).mono ?_
  rintro e w2 ⟨rfl, rfl⟩
  go_wp2_with fail
  go_ret
  exact ⟨by simp, below_new _⟩
/-- What is searched: everything ahead of a is below the key, nothing from b on is. -/
structure Mid (p : List Row) (k : K) (a b : Nat) : Prop where
  h1 : a ≤ lowP p k
  h2 : lowP p k ≤ b
  h3 : b ≤ p.length
set_option maxRecDepth 100000 in
set_option maxHeartbeats 4000000 in
theorem search_any {w : World} {g o cap : Nat} {p : List Row} {k : K} (h : Area w 2 g o cap (pgC p)) (hp : Rise p) (hc : p.length ≤ cap) (hl : p.length ≤ 1000) :
    Calls Tryz.prog 70 #[.slice (some ⟨g, o, none⟩) p.length cap, strV k, .func (.func 71) #[] #[]] w fun e w' => e = .returned (.tuple #[.int .i64 (lowP p k), .bool (hasP p k)]) ∧ Below w.heap.size w w' := by
  have hmx := h.max
  unfold maxLen at hmx
  have hlI : (p.length : Int) ≤ 1000 := by omega
  have hcI : (p.length : Int) ≤ cap := by omega
  have H := Lib.hid h
  have HP := Lib.hid hp
  have HC := Lib.hid (fun (W : World) (a : K) (n : Int) => cmp_any (w := W) a k n)
  have HK : Hid (strV k = .string ⟨k.toArray⟩) := Lib.hid rfl
  obtain ⟨kv, hkv⟩ : ∃ kv, kv = strV k := ⟨_, rfl⟩
  rw [← hkv] at HC HK ⊢
  have HKV := Lib.hid hkv
  clear h hp hkv
  go_enter Tryz.func70, Tryz.ntmps70
  go_wp2_with fail
  go_loopg [9, 10] p.length (fun kx s9 s10 wr => ∃ lo hi : Nat, s9 = .int .i64 lo ∧ s10 = .int .i64 hi ∧ hi - lo ≤ kx ∧ Hid (Mid p k lo hi) ∧ Hid (Below w.heap.size w wr))
  case atStart => exact ⟨0, p.length, rfl, rfl, by omega, Lib.hid ⟨Nat.zero_le _, lowP_le _ _, Nat.le_refl _⟩, Lib.hid (Below.refl _ _)⟩
  case round =>
    obtain ⟨lo, hi, rfl, rfl, hg, HM, HB⟩ := hrel
    have hM := HM.out
    have hlh : lo ≤ hi := Nat.le_trans hM.h1 hM.h2
    have hhl := hM.h3
    by_cases hlt : lo < hi
    · have hx : p[(lo + hi) / 2]? = some (p[(lo + hi) / 2]'(by omega)) := List.getElem?_eq_getElem _
      generalize p[(lo + hi) / 2]'(by omega) = x at hx
      obtain ⟨q1, q2⟩ := pgC_at hx
      have hA := H.out.below HB.out
      have c0 := hA.holds _ _ q1
      have c1 : wr.cell? ⟨g, o + (lo + hi) / 2 * 2 + 1, none⟩ = some (.int .i64 x.n) := by rw [Nat.add_assoc]; exact hA.holds _ _ q2
      have hlow := rise_low HP.out hx (k := k)
      have hiI : (hi : Int) ≤ (p.length : Int) := by omega
      have hloI : (lo : Int) < (hi : Int) := by omega
      have HX := Lib.hid hlow
      have HCC := Lib.hid (HC.out wr x.k x.n)
      have HN := Lib.hid (cmp_lt x.k k)
      generalize Lib.compareBytes x.k k = c at HCC HN
      clear hA q1 q2 hlow hx hM
      by_cases hc0 : c < 0
      · go_wp2_with fail
        refine (HCC.out).mono ?_
        rintro e w' ⟨rfl, hbw⟩
        have HBW := Lib.hid (HB.out.trans (hbw.mono HB.out.size))
        clear hbw HCC c0 c1
        go_wp2_with fail
        go_roundg (hi - ((lo + hi) / 2 + 1))
        case measure => omega
        case rel =>
          have hm := HM.out
          have := HX.out.2 (HN.out.1 hc0)
          exact ⟨(lo + hi) / 2 + 1, hi, by rw [show ((lo : Int) + (hi : Int)) / 2 + 1 = (((lo + hi) / 2 + 1 : Nat) : Int) by omega], rfl, Nat.le_refl _, Lib.hid ⟨by omega, hm.h2, hm.h3⟩, HBW⟩
      · go_wp2_with fail
        refine (HCC.out).mono ?_
        rintro e w' ⟨rfl, hbw⟩
        have HBW := Lib.hid (HB.out.trans (hbw.mono HB.out.size))
        clear hbw HCC c0 c1
        go_wp2_with fail
        go_roundg ((lo + hi) / 2 - lo)
        case measure => omega
        case rel =>
          have hm := HM.out
          have : ¬ (lo + hi) / 2 < lowP p k := fun e => by have := HN.out.2 (HX.out.1 e); omega
          exact ⟨lo, (lo + hi) / 2, rfl, by rw [show ((lo : Int) + (hi : Int)) / 2 = (((lo + hi) / 2 : Nat) : Int) by omega], Nat.le_refl _, Lib.hid ⟨hm.h1, by omega, by omega⟩, HBW⟩
    · obtain rfl : hi = lo := by omega
      have hl1 : lowP p k = hi := by have := hM.h1; have := hM.h2; omega
      have HL := Lib.hid hl1
      have HH : Hid (hasP p k = match p[hi]? with | some r => decide (r.k = k) | none => false) := Lib.hid (by unfold hasP; rw [hl1])
      have hhI : (hi : Int) ≤ (p.length : Int) := by omega
      by_cases hn : hi < p.length
      · have hx : p[hi]? = some p[hi] := List.getElem?_eq_getElem hn
        generalize p[hi] = x at hx
        obtain ⟨q1, q2⟩ := pgC_at hx
        have hA := H.out.below HB.out
        have c0 := hA.holds _ _ q1
        have c1 : wr.cell? ⟨g, o + hi * 2 + 1, none⟩ = some (.int .i64 x.n) := by rw [Nat.add_assoc]; exact hA.holds _ _ q2
        have hnI : (hi : Int) < (p.length : Int) := by omega
        have HH2 : Hid (hasP p k = decide (x.k = k)) := Lib.hid (by rw [HH.out, hx])
        have HCC := Lib.hid (HC.out wr x.k x.n)
        have HN := Lib.hid (cmp_eq0 x.k k)
        generalize Lib.compareBytes x.k k = c at HCC HN
        clear hA q1 q2 hx hM hl1 hn
        by_cases hc0 : c = 0
        · have hd : (c == 0) = true := by simp [hc0]
          go_wp2_with fail
          refine (HCC.out).mono ?_
          rintro e w' ⟨rfl, hbw⟩
          have HBW := Lib.hid (HB.out.trans (hbw.mono HB.out.size))
          clear hbw HCC c0 c1
          go_wp2_with fail
          refine bodyPost_ret (v := .tuple #[.int .i64 hi, .bool true]) (by simp [results, Tryz.results70, go_sem]) rfl ?_
          exact ⟨by rw [HL.out, HH2.out, decide_eq_true (HN.out.1 hc0)], HBW.out⟩
        · have hd : (c == 0) = false := by simp [hc0]
          go_wp2_with fail
          refine (HCC.out).mono ?_
          rintro e w' ⟨rfl, hbw⟩
          have HBW := Lib.hid (HB.out.trans (hbw.mono HB.out.size))
          clear hbw HCC c0 c1
          go_wp2_with fail
          refine bodyPost_ret (v := .tuple #[.int .i64 hi, .bool false]) (by simp [results, Tryz.results70, go_sem]) rfl ?_
          exact ⟨by rw [HL.out, HH2.out, decide_eq_false (fun e => hc0 (HN.out.2 e))], HBW.out⟩
      · have hnI : ¬ (hi : Int) < (p.length : Int) := by omega
        have HH2 : Hid (hasP p k = false) := Lib.hid (by rw [HH.out, List.getElem?_eq_none (by omega)])
        clear hM hl1 hn
        go_wp2_with fail
        refine bodyPost_ret (v := .tuple #[.int .i64 hi, .bool false]) (by simp [results, Tryz.results70, go_sem]) rfl ?_
        exact ⟨by rw [HL.out, HH2.out], HB.out⟩
end Go.Proofs.YtkkembbeejlomaaGreatDoor
