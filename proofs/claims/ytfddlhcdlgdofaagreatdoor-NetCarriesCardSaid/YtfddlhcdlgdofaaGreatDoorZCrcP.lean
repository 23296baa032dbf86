/- The sum CRC-32C: eight steps of a byte, bit by bit, or by a table of sixteen; no two states become one. -/
import Derived.Laws.BitsAllLaws
set_option linter.unusedSimpArgs false
set_option linter.unusedVariables false
namespace Go.Proofs.YtfddlhcdlgdofaaGreatDoor
def pol : Nat := 2197175160
def bs (s : Nat) : Nat := if s % 2 = 1 then s / 2 ^^^ pol else s / 2
theorem bs_bit (s i : Nat) : (bs s).testBit i = (s.testBit (i + 1) ^^ (s.testBit 0 && pol.testBit i)) := by
  unfold bs
  rw [Nat.testBit_succ, Nat.testBit_zero]
  split
  · rename_i h; simp [Nat.testBit_xor, h]
  · rename_i h; simp [h]
theorem bs_xor (a b : Nat) : bs (a ^^^ b) = bs a ^^^ bs b := by
  refine Nat.eq_of_testBit_eq fun i => ?_
  rw [Nat.testBit_xor, bs_bit, bs_bit, bs_bit, Nat.testBit_xor, Nat.testBit_xor]
  generalize a.testBit (i + 1) = p
  generalize b.testBit (i + 1) = q
  generalize a.testBit 0 = r
  generalize b.testBit 0 = s
  generalize pol.testBit i = t
  revert p q r s t
  decide
theorem bs_lt {s : Nat} (h : s < 4294967296) : bs s < 4294967296 := by
  unfold bs
  split
  · exact Nat.xor_lt_two_pow (n := 32) (by omega) (by decide)
  · omega
theorem bs_even (m : Nat) : bs (2 * m) = m := by unfold bs; rw [if_neg (by omega)]; omega
theorem bs_zero {d : Nat} (hd : d < 4294967296) (h : bs d = 0) : d = 0 := by
  unfold bs at h
  split at h
  · have h2 : d / 2 = pol := by
      have := congrArg (· ^^^ pol) h
      simp [Nat.xor_assoc] at this
      exact this
    have : pol = 2197175160 := rfl
    omega
  · omega
theorem xor_lt32 {a b : Nat} (ha : a < 4294967296) (hb : b < 4294967296) : a ^^^ b < 4294967296 := Nat.xor_lt_two_pow (n := 32) ha hb
theorem xor_eq_zero' {a b : Nat} (h : a ^^^ b = 0) : a = b := by
  have := congrArg (· ^^^ b) h
  simp [Nat.xor_assoc] at this
  exact this
theorem bs_inj {a b : Nat} (ha : a < 4294967296) (hb : b < 4294967296) (h : bs a = bs b) : a = b :=
  xor_eq_zero' (bs_zero (xor_lt32 ha hb) (by rw [bs_xor, h, Nat.xor_self]))
def tab : List Nat := [0, 274646895, 549293790, 820201905, 1098587580, 1361435347, 1640403810, 1905808397, 2197175160, 2460548119, 2722870694, 2987750089, 3280807620, 3553878443, 3811616794, 4084100981]
def bs4 (s : Nat) : Nat := bs (bs (bs (bs s)))
def bs8 (s : Nat) : Nat := bs4 (bs4 s)
theorem bs4_xor (a b : Nat) : bs4 (a ^^^ b) = bs4 a ^^^ bs4 b := by simp only [bs4, bs_xor]
theorem bs8_xor (a b : Nat) : bs8 (a ^^^ b) = bs8 a ^^^ bs8 b := by simp only [bs8, bs4_xor]
theorem bs4_lt {s : Nat} (h : s < 4294967296) : bs4 s < 4294967296 := bs_lt (bs_lt (bs_lt (bs_lt h)))
theorem bs8_lt {s : Nat} (h : s < 4294967296) : bs8 s < 4294967296 := bs4_lt (bs4_lt h)
theorem bs8_inj {a b : Nat} (ha : a < 4294967296) (hb : b < 4294967296) (h : bs8 a = bs8 b) : a = b := by
  have h4 : ∀ {a b : Nat}, a < 4294967296 → b < 4294967296 → bs4 a = bs4 b → a = b := fun {a b} ha hb h =>
    bs_inj ha hb (bs_inj (bs_lt ha) (bs_lt hb) (bs_inj (bs_lt (bs_lt ha)) (bs_lt (bs_lt hb)) (bs_inj (bs_lt (bs_lt (bs_lt ha))) (bs_lt (bs_lt (bs_lt hb))) h)))
  exact h4 ha hb (h4 (bs4_lt ha) (bs4_lt hb) h)
theorem split16 (s : Nat) : s = (2 * (2 * (2 * (2 * (s / 16))))) ^^^ (s % 16) := by
  refine Nat.eq_of_testBit_eq fun i => ?_
  have e : 2 * (2 * (2 * (2 * (s / 16)))) = (s >>> 4) <<< 4 := by rw [Nat.shiftRight_eq_div_pow, Nat.shiftLeft_eq]; omega
  have e2 : s % 16 = s % 2 ^ 4 := rfl
  rw [e, e2, Nat.testBit_xor, Nat.testBit_shiftLeft, Nat.testBit_shiftRight, Nat.testBit_mod_two_pow]
  by_cases h : 4 ≤ i
  · simp [h, show 4 + (i - 4) = i from by omega, show ¬ i < 4 from by omega]
  · simp [h, show i < 4 from by omega]
theorem tab_bs : ∀ r, r < 16 → tab[r]? = some (bs4 r) := by decide
theorem tab_step (s : Nat) : ∃ t, tab[s % 16]? = some t ∧ (s / 16) ^^^ t = bs4 s ∧ t < 4294967296 := by
  refine ⟨bs4 (s % 16), tab_bs _ (Nat.mod_lt _ (by decide)), ?_, bs4_lt (by omega)⟩
  conv => rhs; rw [split16 s]
  rw [bs4_xor]
  congr 1
  simp only [bs4, bs_even]
/-- The state behind bytes. -/
def crcL (s : Nat) (l : List UInt8) : Nat := l.foldl (fun s x => bs8 (s ^^^ x.toNat)) s
theorem u8_lt (x : UInt8) : x.toNat < 4294967296 := Nat.lt_trans (UInt8.toNat_lt x) (by decide)
theorem crcL_nil (s : Nat) : crcL s [] = s := rfl
theorem crcL_cons (s : Nat) (x : UInt8) (l : List UInt8) : crcL s (x :: l) = crcL (bs8 (s ^^^ x.toNat)) l := rfl
theorem crcL_snoc (s : Nat) (l : List UInt8) (x : UInt8) : crcL s (l ++ [x]) = bs8 (crcL s l ^^^ x.toNat) := by simp [crcL]
theorem crcL_append (s : Nat) (l m : List UInt8) : crcL s (l ++ m) = crcL (crcL s l) m := by simp [crcL]
theorem crcL_lt {s : Nat} (h : s < 4294967296) (l : List UInt8) : crcL s l < 4294967296 := by
  induction l generalizing s with
  | nil => exact h
  | cons x r ih => exact ih (bs8_lt (xor_lt32 h (u8_lt x)))
theorem crcL_inj {a b : Nat} (ha : a < 4294967296) (hb : b < 4294967296) (l : List UInt8) (h : crcL a l = crcL b l) : a = b := by
  induction l generalizing a b with
  | nil => exact h
  | cons x r ih =>
    have := bs8_inj (xor_lt32 ha (u8_lt x)) (xor_lt32 hb (u8_lt x)) (ih (bs8_lt (xor_lt32 ha (u8_lt x))) (bs8_lt (xor_lt32 hb (u8_lt x))) h)
    have h2 := congrArg (· ^^^ x.toNat) this
    simpa [Nat.xor_assoc] using h2
/-- Two texts that differ at one byte have two states. -/
theorem crcL_one {s : Nat} (hs : s < 4294967296) (l m : List UInt8) {x y : UInt8} (hxy : x ≠ y) : crcL s (l ++ x :: m) ≠ crcL s (l ++ y :: m) := by
  intro h
  rw [crcL_append, crcL_append, crcL_cons, crcL_cons] at h
  have hl := crcL_lt hs l
  have h1 := crcL_inj (bs8_lt (xor_lt32 hl (u8_lt x))) (bs8_lt (xor_lt32 hl (u8_lt y))) m h
  have h2 := bs8_inj (xor_lt32 hl (u8_lt x)) (xor_lt32 hl (u8_lt y)) h1
  have h3 : x.toNat = y.toNat := by
    have := congrArg (crcL s l ^^^ ·) h2
    simpa [← Nat.xor_assoc] using this
  exact hxy (UInt8.toNat_inj.1 h3)
/-- The document's own sum: a bit at a time. -/
def bitAt (l : List UInt8) (i : Nat) : Nat := (l[i / 8]?.getD 0).toNat / 2 ^ (i % 8) % 2
def refS (l : List UInt8) : Nat → Nat
  | 0 => 4294967295
  | i + 1 => bs (refS l i ^^^ bitAt l i)
theorem ref_eight : ∀ x, x < 256 → bs (bs (bs (bs (bs (bs (bs (bs (x / 1 % 2) ^^^ (x / 2 % 2)) ^^^ (x / 4 % 2)) ^^^ (x / 8 % 2)) ^^^ (x / 16 % 2)) ^^^ (x / 32 % 2)) ^^^ (x / 64 % 2)) ^^^ (x / 128 % 2)) = bs8 x := by
  have h : ((List.range 256).all fun x => bs (bs (bs (bs (bs (bs (bs (bs (x / 1 % 2) ^^^ (x / 2 % 2)) ^^^ (x / 4 % 2)) ^^^ (x / 8 % 2)) ^^^ (x / 16 % 2)) ^^^ (x / 32 % 2)) ^^^ (x / 64 % 2)) ^^^ (x / 128 % 2)) == bs8 x) = true := by decide +kernel
  intro x hx
  simpa using List.all_eq_true.1 h x (List.mem_range.2 hx)
theorem refS_eight {l : List UInt8} {k : Nat} {x : UInt8} (hx : l[k]? = some x) : refS l (8 * (k + 1)) = bs8 (refS l (8 * k) ^^^ x.toNat) := by
  have hb : ∀ j, j < 8 → bitAt l (8 * k + j) = x.toNat / 2 ^ j % 2 := by
    intro j hj
    unfold bitAt
    rw [show (8 * k + j) / 8 = k from by omega, show (8 * k + j) % 8 = j from by omega, hx]; rfl
  have e := ref_eight x.toNat (UInt8.toNat_lt x)
  rw [show 8 * (k + 1) = 8 * k + 7 + 1 from by omega]
  simp only [refS]
  have hb0 := hb 0 (by omega)
  rw [Nat.add_zero] at hb0
  rw [hb0, hb 1 (by omega), hb 2 (by omega), hb 3 (by omega), hb 4 (by omega), hb 5 (by omega), hb 6 (by omega), hb 7 (by omega), bs8_xor, ← e]
  simp only [bs_xor, bs8, bs4, Nat.xor_assoc]
theorem refS_crc (l : List UInt8) (k : Nat) (hk : k ≤ l.length) : refS l (8 * k) = crcL 4294967295 (l.take k) := by
  induction k with
  | zero => rfl
  | succ k ih =>
    rw [refS_eight (List.getElem?_eq_getElem (show k < l.length by omega)), ih (by omega), List.take_succ_eq_append_getElem (by omega), crcL_snoc]
theorem bitAt_le (l : List UInt8) (i : Nat) : bitAt l i ≤ 1 := by unfold bitAt; omega
theorem refS_lt (l : List UInt8) (i : Nat) : refS l i < 4294967296 := by
  induction i with
  | zero => exact (by decide : (4294967295 : Nat) < 4294967296)
  | succ i ih => exact bs_lt (xor_lt32 ih (by have := bitAt_le l i; omega))
def sumB (l : List UInt8) : Nat := crcL 4294967295 l ^^^ 4294967295
theorem not32 {s : Nat} (h : s < 4294967296) : s ^^^ 4294967295 = 4294967295 - s := by
  have : (4294967295 : Nat) = 2 ^ 32 - 1 := by decide
  rw [this, Nat.xor_comm]
  refine Nat.eq_of_testBit_eq fun i => ?_
  rw [show 2 ^ 32 - 1 - s = 2 ^ 32 - (s + 1) from by omega, Nat.testBit_two_pow_sub_succ h, Nat.testBit_xor, Nat.testBit_two_pow_sub_one]
  by_cases hi : i < 32
  · simp [hi]
  · simp [hi]
    exact Nat.testBit_lt_two_pow (Nat.lt_of_lt_of_le h (by rw [show (4294967296 : Nat) = 2 ^ 32 from rfl]; exact Nat.pow_le_pow_right (by omega) (by omega)))
theorem sumB_eq (l : List UInt8) : sumB l = 4294967295 - crcL 4294967295 l := not32 (crcL_lt (by decide) l)
theorem sumB_lt (l : List UInt8) : sumB l < 4294967296 := by rw [sumB_eq]; omega
theorem sumB_one (l m : List UInt8) {x y : UInt8} (hxy : x ≠ y) : sumB (l ++ x :: m) ≠ sumB (l ++ y :: m) := by
  intro h
  have h1 := crcL_lt (s := 4294967295) (by decide) (l ++ x :: m)
  have h2 := crcL_lt (s := 4294967295) (by decide) (l ++ y :: m)
  rw [sumB_eq, sumB_eq] at h
  exact crcL_one (s := 4294967295) (by decide) l m hxy (by omega)
/-- Four bytes of a number, the highest one first. -/
def be4 (s : Nat) : List UInt8 := [(s / 16777216).toUInt8, (s / 65536).toUInt8, (s / 256).toUInt8, s.toUInt8]
def headB (n : Nat) : List UInt8 := [167, (n / 256).toUInt8, n.toUInt8]
def preB (l : List UInt8) : List UInt8 := headB l.length ++ l
def frameB (l : List UInt8) : List UInt8 := preB l ++ be4 (sumB (preB l))
theorem frameB_len (l : List UInt8) : (frameB l).length = l.length + 7 := by simp [frameB, preB, headB, be4]
def be4N (a b c d : UInt8) : Nat := ((a.toNat * 256 + b.toNat) * 256 + c.toNat) * 256 + d.toNat
theorem u8_mod (n : Nat) : (n.toUInt8).toNat = n % 256 := by simp [Nat.toUInt8]
theorem be4N_be4 {s : Nat} (h : s < 4294967296) : be4N (s / 16777216).toUInt8 (s / 65536).toUInt8 (s / 256).toUInt8 s.toUInt8 = s := by
  unfold be4N
  rw [u8_mod, u8_mod, u8_mod, u8_mod]; omega

/-! frames -/
def atN (b : List UInt8) (i : Nat) : Nat := (b[i]?.getD 0).toNat
def szP (b : List UInt8) : Nat := atN b 1 * 256 + atN b 2
def wordP (b : List UInt8) (i : Nat) : Nat := be4N (b[i]?.getD 0) (b[i + 1]?.getD 0) (b[i + 2]?.getD 0) (b[i + 3]?.getD 0)
def firstP (b : List UInt8) : Nat := if b.length < 7 ∨ atN b 0 ≠ 167 then 0 else if 16384 < szP b ∨ b.length < szP b + 7 ∨ sumB (b.take (szP b + 3)) ≠ wordP b (szP b + 3) then 0 else szP b + 7
theorem atN_lt (b : List UInt8) (i : Nat) : atN b i < 256 := UInt8.toNat_lt _
theorem szP_lt (b : List UInt8) : szP b < 65536 := by
  have := atN_lt b 1
  have := atN_lt b 2
  unfold szP; omega
theorem wordP_lt (b : List UInt8) (i : Nat) : wordP b i < 4294967296 := by
  unfold wordP be4N
  have := UInt8.toNat_lt (b[i]?.getD 0)
  have := UInt8.toNat_lt (b[i + 1]?.getD 0)
  have := UInt8.toNat_lt (b[i + 2]?.getD 0)
  have := UInt8.toNat_lt (b[i + 3]?.getD 0)
  omega
theorem preB_len (l : List UInt8) : (preB l).length = l.length + 3 := by simp [preB, headB]
theorem szP_frame {l : List UInt8} (hl : l.length ≤ 16384) (rest : List UInt8) : szP (frameB l ++ rest) = l.length := by
  simp [szP, atN, frameB, preB, headB, u8_mod]
  omega
theorem firstP_frame {l : List UInt8} (hl : l.length ≤ 16384) (rest : List UInt8) : firstP (frameB l ++ rest) = l.length + 7 := by
  have hs := szP_frame hl rest
  have h1 : ¬ ((frameB l ++ rest).length < 7 ∨ atN (frameB l ++ rest) 0 ≠ 167) := by
    rw [List.length_append, frameB_len]
    have : atN (frameB l ++ rest) 0 = 167 := by simp [atN, frameB, preB, headB]
    omega
  unfold firstP
  rw [if_neg h1, hs, if_neg]
  rintro (h | h | h)
  · omega
  · rw [List.length_append, frameB_len] at h; omega
  · refine h ?_
    have e1 : (frameB l ++ rest).take (l.length + 3) = preB l := by
      unfold frameB
      rw [List.append_assoc, ← preB_len l, List.take_left]
    have e2 : ∀ j, j < 4 → (frameB l ++ rest)[l.length + 3 + j]? = (be4 (sumB (preB l)))[j]? := by
      intro j hj
      unfold frameB
      rw [List.append_assoc, List.getElem?_append_right (by rw [preB_len]; omega), preB_len, Nat.add_sub_cancel_left, List.getElem?_append_left (by simpa [be4] using hj)]
    rw [e1]
    unfold wordP
    rw [← Nat.add_zero (l.length + 3), e2 0 (by omega)]
    rw [show l.length + 3 + 0 + 1 = l.length + 3 + 1 from rfl, show l.length + 3 + 0 + 2 = l.length + 3 + 2 from rfl, show l.length + 3 + 0 + 3 = l.length + 3 + 3 from rfl, e2 1 (by omega), e2 2 (by omega), e2 3 (by omega)]
    exact (be4N_be4 (sumB_lt _)).symm
theorem u8_of {x : UInt8} {n : Nat} (h : n % 256 = x.toNat) : n.toUInt8 = x := UInt8.toNat_inj.1 (by rw [u8_mod]; exact h)
theorem be4_be4N (a b c d : UInt8) : be4 (be4N a b c d) = [a, b, c, d] := by
  have := UInt8.toNat_lt a
  have := UInt8.toNat_lt b
  have := UInt8.toNat_lt c
  have := UInt8.toNat_lt d
  unfold be4
  rw [u8_of (x := a) (by unfold be4N; omega), u8_of (x := b) (by unfold be4N; omega), u8_of (x := c) (by unfold be4N; omega), u8_of (x := d) (by unfold be4N; omega)]
theorem headB_sz (b : List UInt8) (h0 : atN b 0 = 167) (h3 : 3 ≤ b.length) : headB (szP b) = b.take 3 := by
  match b, h3 with
  | x :: y :: z :: r, _ =>
    have hx : x.toNat = 167 := h0
    have hy := UInt8.toNat_lt y
    have hz := UInt8.toNat_lt z
    have e : szP (x :: y :: z :: r) = y.toNat * 256 + z.toNat := rfl
    rw [e]
    unfold headB
    rw [u8_of (x := y) (by omega), u8_of (x := z) (by omega)]
    have : x = 167 := UInt8.toNat_inj.1 (by rw [hx]; rfl)
    rw [this]; rfl
theorem firstP_pos {b : List UInt8} (h : firstP b ≠ 0) : ∃ l, l = (b.drop 3).take (szP b) ∧ l.length = szP b ∧ l.length ≤ 16384 ∧ firstP b = l.length + 7 ∧ b = frameB l ++ b.drop (l.length + 7) ∧ l.length + 7 ≤ b.length := by
  unfold firstP at h ⊢
  by_cases h1 : b.length < 7 ∨ atN b 0 ≠ 167
  · rw [if_pos h1] at h; exact absurd rfl h
  · rw [if_neg h1] at h ⊢
    by_cases h2 : 16384 < szP b ∨ b.length < szP b + 7 ∨ sumB (b.take (szP b + 3)) ≠ wordP b (szP b + 3)
    · rw [if_pos h2] at h; exact absurd rfl h
    · rw [if_neg h2]
      have h4 : sumB (b.take (szP b + 3)) = wordP b (szP b + 3) := Classical.byContradiction fun hc => h2 (.inr (.inr hc))
      have hl : ((b.drop 3).take (szP b)).length = szP b := by simp; omega
      refine ⟨_, rfl, hl, by omega, by rw [hl], ?_, by omega⟩
      have hp : preB ((b.drop 3).take (szP b)) = b.take (szP b + 3) := by
        unfold preB
        rw [hl, headB_sz b (by omega) (by omega), Nat.add_comm, List.take_add]
      have hw : (b.drop (szP b + 3)).take 4 = be4 (wordP b (szP b + 3)) := by
        unfold wordP
        rw [be4_be4N]
        refine List.ext_getElem? fun i => ?_
        rw [List.getElem?_take]
        split
        · rename_i hi
          rw [List.getElem?_drop]
          have g : ∀ j, j < 4 → b[szP b + 3 + j]? = some (b[szP b + 3 + j]?.getD 0) := fun j hj => by
            rw [List.getElem?_eq_getElem (by omega)]; rfl
          match i, hi with
          | 0, _ => simpa using g 0 (by omega)
          | 1, _ => simpa using g 1 (by omega)
          | 2, _ => simpa using g 2 (by omega)
          | 3, _ => simpa using g 3 (by omega)
        · rw [List.getElem?_eq_none]; simp; omega
      have : frameB ((b.drop 3).take (szP b)) = b.take (szP b + 7) := by
        unfold frameB
        rw [hp, h4, ← hw, show szP b + 7 = (szP b + 3) + 4 from rfl, List.take_add (i := szP b + 3)]
      rw [hl, this, List.take_append_drop]
/-- A beginning of a frame is none. -/
theorem firstP_cut {l : List UInt8} (hl : l.length ≤ 16384) {k : Nat} (hk : k < l.length + 7) : firstP ((frameB l).take k) = 0 := by
  refine Classical.byContradiction fun h => ?_
  obtain ⟨m, -, -, hm, -, he, hle⟩ := firstP_pos h
  have hk' : ((frameB l).take k).length = k := by rw [List.length_take, frameB_len]; omega
  have e1 : frameB l = frameB m ++ ((frameB l).take k).drop (m.length + 7) ++ (frameB l).drop k := by rw [← he, List.take_append_drop]
  have e2 := firstP_frame hl []
  rw [List.append_nil, e1, List.append_assoc, firstP_frame hm] at e2
  omega
theorem frameB_inj {l m : List UInt8} (hl : l.length ≤ 16384) (hm : m.length ≤ 16384) {r s : List UInt8} (h : frameB l ++ r = frameB m ++ s) : l = m ∧ r = s := by
  have e := firstP_frame hl r
  rw [h, firstP_frame hm] at e
  have e3 : (frameB l).length = (frameB m).length := by rw [frameB_len, frameB_len]; omega
  obtain ⟨h1, h2⟩ := List.append_inj h e3
  refine ⟨?_, h2⟩
  unfold frameB preB at h1
  have h3 := (List.append_inj h1 (by simp [headB, be4]; omega)).1
  exact (List.append_inj h3 (by simp [headB])).2
/-- A frame of which one byte is another one is not one frame. -/
theorem firstP_one {l : List UInt8} (hl : l.length ≤ 16384) {p s : List UInt8} {x y : UInt8} (hxy : x ≠ y) (h : frameB l = p ++ x :: s) : firstP (p ++ y :: s) ≠ l.length + 7 := by
  intro hc
  obtain ⟨m, -, -, hm, hn, he, hle⟩ := firstP_pos (b := p ++ y :: s) (by omega)
  have hlen : (p ++ y :: s).length = l.length + 7 := by rw [← frameB_len, h]; simp
  rw [List.drop_eq_nil_of_le (by omega), List.append_nil] at he
  have hlm : l.length = m.length := by omega
  have h1 : preB l ++ be4 (sumB (preB l)) = p ++ x :: s := h
  have h2 : preB m ++ be4 (sumB (preB m)) = p ++ y :: s := he.symm
  by_cases hp : p.length < l.length + 3
  · obtain ⟨s1, e1, e2⟩ : ∃ s1, preB l = p ++ x :: s1 ∧ s = s1 ++ be4 (sumB (preB l)) := by
      have e0 : p ++ x :: s = preB l ++ be4 (sumB (preB l)) := h1.symm
      rcases List.append_eq_append_iff.1 e0 with ⟨a, ha, hb⟩ | ⟨a, ha, hb⟩
      · cases a with
        | nil => rw [List.append_nil] at ha; rw [← ha, preB_len] at hp; omega
        | cons z a =>
          rw [List.cons_append] at hb
          injection hb with hb1 hb2
          subst hb1
          exact ⟨a, ha, hb2⟩
      · have := congrArg List.length ha
        rw [List.length_append, preB_len] at this
        omega
    obtain ⟨s2, e3, e4⟩ : ∃ s2, preB m = p ++ y :: s2 ∧ s = s2 ++ be4 (sumB (preB m)) := by
      have e0 : p ++ y :: s = preB m ++ be4 (sumB (preB m)) := h2.symm
      rcases List.append_eq_append_iff.1 e0 with ⟨a, ha, hb⟩ | ⟨a, ha, hb⟩
      · cases a with
        | nil => rw [List.append_nil] at ha; rw [← ha, preB_len] at hp; omega
        | cons z a =>
          rw [List.cons_append] at hb
          injection hb with hb1 hb2
          subst hb1
          exact ⟨a, ha, hb2⟩
      · have := congrArg List.length ha
        rw [List.length_append, preB_len] at this
        omega
    have hq : s1 = s2 ∧ be4 (sumB (preB l)) = be4 (sumB (preB m)) := by
      have := e2.symm.trans e4
      exact List.append_inj' this (by simp [be4])
    have hs : sumB (preB l) = sumB (preB m) := by
      have h3 := hq.2
      simp only [be4, List.cons.injEq, and_true] at h3
      rw [← be4N_be4 (sumB_lt (preB l)), ← be4N_be4 (sumB_lt (preB m)), h3.1, h3.2.1, h3.2.2.1, h3.2.2.2]
    rw [e1, e3, ← hq.1] at hs
    exact sumB_one p s1 hxy hs
  · have e5 : preB l = preB m := by
      have a1 : preB l = (p ++ x :: s).take (l.length + 3) := by rw [← h1, ← preB_len l, List.take_left]
      have a2 : preB m = (p ++ y :: s).take (l.length + 3) := by rw [← h2, hlm, ← preB_len m, List.take_left]
      rw [a1, a2, List.take_append_of_le_length (by omega), List.take_append_of_le_length (by omega)]
    rw [e5, h2] at h1
    have := List.append_cancel_left h1
    injection this with h6 _
    exact hxy h6.symm
end Go.Proofs.YtfddlhcdlgdofaaGreatDoor
