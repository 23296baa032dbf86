/- Messages in plain words: which may be, their bytes, and what is read of any bytes. mess.of, fits, May. mess.nats, nums; what operations' bytes are made of. -/
import Derived.Test.YtmbonngjkgcijaaGreatDoorZMeaP
import Derived.Test.YtmbonngjkgcijaaGreatDoorZOmwB
set_option linter.unusedSimpArgs false
set_option linter.unusedVariables false
set_option linter.unnecessarySimpa false
namespace Go.Proofs.YtmbonngjkgcijaaGreatDoor
open Go.RowKit Go.Shelf Go.Lib

structure MsgV where
  kd : Int
  fr : Int
  tt : Int
  g : Int
  nd : Int
  tr : Int
  lw : Int
  co : Int
  ti : Int
  tl : List Int
  os : List OpV
  deriving DecidableEq
def kindM (k : Int) : Bool := decide ((1 ≤ k ∧ k ≤ 4) ∨ (11 ≤ k ∧ k ≤ 16))
def tryM (k : Int) : Bool := decide (k = 1 ∨ k = 2 ∨ k = 4 ∨ k = 11 ∨ k = 12 ∨ k = 14)
def lowM (k : Int) : Bool := decide (1 ≤ k ∧ k ≤ 4)
def opsM (k : Int) : Bool := decide (k = 1 ∨ k = 4)
def toldM (k : Int) : Bool := decide (k = 11)
def codeM (k : Int) : Bool := decide (k = 12 ∨ k = 14)
def fitP (has : Bool) (n lo hi : Int) : Bool := if has then decide (lo ≤ n) && decide (n ≤ hi) else decide (n = 0)
theorem fitP_in {b : Bool} {n lo hi : Int} (h : fitP b n lo hi = true) (h0 : 0 ≤ lo) (h1 : lo ≤ hi) : 0 ≤ n ∧ n ≤ hi := by
  unfold fitP at h
  split at h
  · simp only [Bool.and_eq_true, decide_eq_true_eq] at h; omega
  · simp only [decide_eq_true_eq] at h; omega
def mayM (m : MsgV) : Bool :=
  kindM m.kd && (fitP (!lowM m.kd) m.fr 1 3 && (fitP (lowM m.kd) m.tt 1 3 && (fitP true m.g 1 1048576 && (fitP true m.nd 0 255 && (fitP (tryM m.kd) m.tr 0 1048576 &&
  (fitP (lowM m.kd) m.lw 1 1048577 && (fitP (codeM m.kd) m.co 1 99 && (fitP (toldM m.kd) m.ti 0 9223372036854775807 && (fitP (toldM m.kd) m.tl.length 0 8 && (fitP (opsM m.kd) m.os.length 0 8 && decide (checkO m.os = 0)))))))))))
structure MsgIn (m : MsgV) : Prop where
  told : ∀ x ∈ m.tl, -9223372036854775808 ≤ x ∧ x ≤ 9223372036854775807
  ops : ∀ o ∈ m.os, OpIn o
/-- What may be has numbers that are not too great. -/
structure Fits (m : MsgV) : Prop where
  kd : 0 ≤ m.kd ∧ m.kd ≤ 16
  fr : 0 ≤ m.fr ∧ m.fr ≤ 3
  tt : 0 ≤ m.tt ∧ m.tt ≤ 3
  g : 0 ≤ m.g ∧ m.g ≤ 1048576
  nd : 0 ≤ m.nd ∧ m.nd ≤ 255
  tr : 0 ≤ m.tr ∧ m.tr ≤ 1048576
  lw : 0 ≤ m.lw ∧ m.lw ≤ 1048577
  co : 0 ≤ m.co ∧ m.co ≤ 99
  ti : 0 ≤ m.ti ∧ m.ti ≤ 9223372036854775807
  tl : m.tl.length ≤ 8
  os : m.os.length ≤ 8
  may : ∀ o ∈ m.os, mayO o = true
theorem checkO_ok {l : List OpV} (h : checkO l = 0) : l.length ≤ 8 ∧ ∀ o ∈ l, askO o = true := by
  unfold checkO at h
  split at h
  · cases h
  · split at h
    · rename_i h1 h2
      exact ⟨by omega, List.all_eq_true.1 h2⟩
    · cases h
theorem mayM_fits {m : MsgV} (h : mayM m = true) : Fits m := by
  unfold mayM at h
  simp only [Bool.and_eq_true] at h
  obtain ⟨h1, h2, h3, h4, h5, h6, h7, h8, h9, h10, h11, h12⟩ := h
  have k := checkO_ok (of_decide_eq_true h12)
  have a10 := fitP_in h10 (by omega) (by omega)
  exact ⟨by unfold kindM at h1; simp only [decide_eq_true_eq] at h1; omega, fitP_in h2 (by omega) (by omega), fitP_in h3 (by omega) (by omega), fitP_in h4 (by omega) (by omega), fitP_in h5 (by omega) (by omega),
    fitP_in h6 (by omega) (by omega), fitP_in h7 (by omega) (by omega), fitP_in h8 (by omega) (by omega), fitP_in h9 (by omega) (by omega), by omega, k.1, fun o ho => by
      have := k.2 o ho
      unfold askO at this
      exact (Bool.and_eq_true _ _ ▸ this).1⟩
def numsB (l : List Int) : List UInt8 := natB l.length ++ l.flatMap fun x => natB (numN x)
def natsB (l : List Int) : List UInt8 := l.flatMap fun x => natB x.toNat
def bodyM (m : MsgV) : List UInt8 := natsB [m.kd, m.fr, m.tt, m.g, m.nd, m.tr, m.lw, m.co] ++ (natB m.ti.toNat ++ (numsB m.tl ++ strB ⟨(opsB m.os).toArray⟩))
def encM (m : MsgV) : List UInt8 := frameB (bodyM m)
/-- So many numbers, one behind the other. -/
def hdS (bs : List UInt8) : Nat → Option Nat → List Nat × Option Nat
  | 0, st => ([], st)
  | n + 1, st => ((natS bs st).1 :: (hdS bs n (natS bs st).2).1, (hdS bs n (natS bs st).2).2)
theorem hdS_snoc (bs : List UInt8) : ∀ (n : Nat) (st : Option Nat), hdS bs (n + 1) st = ((hdS bs n st).1 ++ [(natS bs (hdS bs n st).2).1], (natS bs (hdS bs n st).2).2)
  | 0, st => rfl
  | n + 1, st => by
    rw [hdS, hdS_snoc bs n]
    rfl
theorem hdS_len (bs : List UInt8) : ∀ (n : Nat) (st : Option Nat), (hdS bs n st).1.length = n
  | 0, _ => rfl
  | n + 1, st => by rw [hdS]; simp [hdS_len bs n]
theorem hdS_le (bs : List UInt8) : ∀ (n : Nat) (st : Option Nat), ∀ x ∈ (hdS bs n st).1, x ≤ 18446744073709551615
  | 0, _, x, h => by cases h
  | n + 1, st, x, h => by
    rw [hdS] at h
    rcases List.mem_cons.1 h with rfl | h
    · exact natS_le _ _
    · exact hdS_le bs n _ x h
theorem hdS_none (bs : List UInt8) : ∀ (n : Nat), (hdS bs n none).2 = none
  | 0 => rfl
  | n + 1 => by rw [hdS]; exact hdS_none bs n
theorem hdS_only {bs : List UInt8} : ∀ (n : Nat) {p q : Nat} {l : List Nat}, hdS bs n (some p) = (l, some q) → bs.drop p = l.flatMap natB ++ bs.drop q
  | 0, p, q, l, h => by
    obtain ⟨rfl, rfl⟩ : [] = l ∧ p = q := by simpa [hdS] using h
    simp
  | n + 1, p, q, l, h => by
    rw [hdS] at h
    obtain ⟨a, s, ha⟩ : ∃ a s, natS bs (some p) = (a, s) := ⟨_, _, rfl⟩
    rw [ha] at h
    simp only at h
    obtain ⟨rfl, h2⟩ := Prod.mk.inj h
    cases s with
    | none => rw [hdS_none] at h2; cases h2
    | some q1 =>
      have := hdS_only n (p := q1) (l := (hdS bs n (some q1)).1) (q := q) (Prod.ext rfl h2)
      rw [(natS_only ha).2.1, this, List.flatMap_cons, List.append_assoc]
theorem hdS_back {bs : List UInt8} : ∀ (l : List Nat) {p : Nat} {r : List UInt8}, (∀ x ∈ l, x ≤ 18446744073709551615) → bs.drop p = l.flatMap natB ++ r →
    hdS bs l.length (some p) = (l, some (p + (l.flatMap natB).length)) ∧ bs.drop (p + (l.flatMap natB).length) = r
  | [], p, r, _, h => ⟨by simp [hdS], by simpa using h⟩
  | x :: l, p, r, hx, h => by
    rw [List.flatMap_cons, List.append_assoc] at h
    obtain ⟨e1, e2⟩ := natS_back (hx x (by simp)) h
    obtain ⟨f1, f2⟩ := hdS_back l (fun y hy => hx y (by simp [hy])) e2
    have hl : p + (natB x).length + (l.flatMap natB).length = p + ((x :: l).flatMap natB).length := by rw [List.flatMap_cons, List.length_append, Nat.add_assoc]
    rw [hl] at f1 f2
    refine ⟨?_, f2⟩
    rw [List.length_cons, hdS, e1]
    simp only
    rw [f1]
/-- A number that is too great is cut down. -/
def cutS (n : Nat) : Int := ((min n 1048578 : Nat) : Int)
def wrapS (n : Nat) : Int := if n ≤ 9223372036854775807 then (n : Int) else (n : Int) - 18446744073709551616
/-- What the numbers of a body come to. -/
def msgOf : List Nat → List Nat → List OpV → MsgV
  | [a0, a1, a2, a3, a4, a5, a6, a7, a8, _], ns, l => ⟨cutS a0, cutS a1, cutS a2, cutS a3, cutS a4, cutS a5, cutS a6, cutS a7, wrapS a8, ns.map numV, l⟩
  | _, _, _ => ⟨0, 0, 0, 0, 0, 0, 0, 0, 0, [], []⟩
def manyS (a : List Nat) : Nat := min (a[9]?.getD 0) 9
def decB (bs : List UInt8) : Option MsgV :=
  match decO (strS 16384 bs (hdS bs (manyS (hdS bs 10 (some 0)).1) (hdS bs 10 (some 0)).2).2).1.data.toList with
  | none => none
  | some l => if (strS 16384 bs (hdS bs (manyS (hdS bs 10 (some 0)).1) (hdS bs 10 (some 0)).2).2).2 = some bs.length ∧ mayM (msgOf (hdS bs 10 (some 0)).1 (hdS bs (manyS (hdS bs 10 (some 0)).1) (hdS bs 10 (some 0)).2).1 l) = true then
      some (msgOf (hdS bs 10 (some 0)).1 (hdS bs (manyS (hdS bs 10 (some 0)).1) (hdS bs 10 (some 0)).2).1 l) else none
theorem cutS_in {n : Nat} (h : cutS n ≤ 1048577) : cutS n = (n : Int) := by unfold cutS at h ⊢; omega
theorem wrapS_in {n : Nat} (h : 0 ≤ wrapS n) (hn : n ≤ 18446744073709551615) : wrapS n = (n : Int) := by
  unfold wrapS at h ⊢
  split
  · rfl
  · rename_i h1; rw [if_neg h1] at h; omega
theorem nums_map (ns : List Nat) : (ns.map numV).flatMap (fun x => natB (numN x)) = ns.flatMap natB := by
  rw [List.flatMap_map]
  congr 1
  funext x
  simp only [Function.comp, numN_numV]
theorem decB_only {bs : List UInt8} {m : MsgV} (h : decB bs = some m) : bs = bodyM m ∧ mayM m = true ∧ MsgIn m := by
  unfold decB at h
  obtain ⟨a, s1, ha⟩ : ∃ a s1, hdS bs 10 (some 0) = (a, s1) := ⟨_, _, rfl⟩
  have hlen : a.length = 10 := by have := hdS_len bs 10 (some 0); rw [ha] at this; exact this
  have hle : ∀ x ∈ a, x ≤ 18446744073709551615 := by have := hdS_le bs 10 (some 0); rw [ha] at this; exact this
  rw [ha] at h
  simp only at h
  obtain ⟨ns, s2, hns⟩ : ∃ ns s2, hdS bs (manyS a) s1 = (ns, s2) := ⟨_, _, rfl⟩
  have hnl : ns.length = manyS a := by have := hdS_len bs (manyS a) s1; rw [hns] at this; exact this
  have hnle : ∀ x ∈ ns, x ≤ 18446744073709551615 := by have := hdS_le bs (manyS a) s1; rw [hns] at this; exact this
  rw [hns] at h
  simp only at h
  obtain ⟨raw, s3, hraw⟩ : ∃ raw s3, strS 16384 bs s2 = (raw, s3) := ⟨_, _, rfl⟩
  rw [hraw] at h
  simp only at h
  split at h
  · cases h
  · rename_i l hl
    split at h
    · rename_i hif
      obtain ⟨hend, hmay⟩ := hif
      obtain rfl := Option.some.inj h
      subst hend
      cases s2 with
      | none => cases (Prod.mk.inj (strS_none.symm.trans hraw)).2
      | some q2 =>
        cases s1 with
        | none =>
          have := hdS_none bs (manyS a)
          rw [hns] at this
          cases this
        | some q1 =>
          have d1 := hdS_only 10 ha
          have d2 := hdS_only (manyS a) hns
          have d3 := (strS_only hraw).2.1
          obtain ⟨e1, e2, e3⟩ := decO_only hl
          match a, hlen with
          | [a0, a1, a2, a3, a4, a5, a6, a7, a8, a9], _ =>
            have F := mayM_fits hmay
            have f8 : a8 ≤ 18446744073709551615 := hle a8 (by simp)
            simp only [msgOf] at F hmay ⊢
            obtain ⟨k0, k1, k2, k3, k4, k5, k6, k7, k8, k9, k10, k11⟩ := F
            simp only at k0 k1 k2 k3 k4 k5 k6 k7 k8 k9 k10 k11
            rw [List.length_map, hnl] at k9
            have hmany : manyS [a0, a1, a2, a3, a4, a5, a6, a7, a8, a9] = min a9 9 := rfl
            rw [hmany] at k9 hnl
            refine ⟨?_, hmay, ⟨fun x hx => ?_, fun o ho => (e3 o ho).2⟩⟩
            · unfold bodyM natsB numsB
              simp only
              rw [nums_map, List.length_map, hnl, show min a9 9 = a9 by omega, cutS_in (n := a0) (by omega), cutS_in (n := a1) (by omega), cutS_in (n := a2) (by omega), cutS_in (n := a3) (by omega), cutS_in (n := a4) (by omega), cutS_in (n := a5) (by omega), cutS_in (n := a6) (by omega), cutS_in (n := a7) (by omega), wrapS_in k8.1 f8]
              have hr : (⟨(opsB l).toArray⟩ : ByteArray) = raw := by rw [← e1]
              rw [hr]
              have : bs.drop 0 = _ := d1
              rw [d2, d3] at this
              simp only [List.drop_zero, List.drop_length, List.append_nil] at this
              rw [this]
              simp only [List.flatMap_cons, List.flatMap_nil, List.append_nil, Int.toNat_natCast, List.append_assoc]
            · obtain ⟨y, hy, rfl⟩ := List.mem_map.1 hx
              exact numV_in (hnle y hy)
    · cases h
theorem natB_le (n : Nat) (hn : n ≤ 18446744073709551615) : (natB n).length ≤ 9 := by
  rw [natB_len]
  have := sizeB_le n hn
  omega
theorem natB_le2 (n : Nat) (hn : n < 256) : (natB n).length ≤ 2 := by
  rw [natB_len]
  have : ¬ 1 < sizeB n := fun h => by
    have := (sizeB_spec n (by omega) 1).1 h
    exact this (Nat.div_eq_of_lt (by omega))
  omega
theorem flatM_le {α : Type} (f : α → List UInt8) (b : Nat) : ∀ (l : List α), (∀ x ∈ l, (f x).length ≤ b) → (l.flatMap f).length ≤ l.length * b
  | [], _ => by simp
  | x :: l, h => by
    have h1 := h x (by simp)
    have h2 := flatM_le f b l (fun y hy => h y (by simp [hy]))
    rw [List.flatMap_cons, List.length_append, List.length_cons, Nat.add_mul]
    omega
theorem opB_le {o : OpV} (h : mayO o = true) (hi : OpIn o) : (opB o).length ≤ 38 := by
  have h1 := mayO_kind h
  have h2 := mayO_key h
  have a1 := natB_le2 o.k.toNat (by omega)
  have a2 := natB_le2 o.s.size (by omega)
  have a3 := natB_le _ (numN_le' hi.n.1 hi.n.2)
  have a4 := natB_le _ (numN_le' hi.lo.1 hi.lo.2)
  have a5 := size_list o.s
  unfold opB strB
  simp only [List.length_append]
  omega
theorem opsB_le {l : List OpV} (hl : l.length ≤ 8) (h : ∀ o ∈ l, mayO o = true ∧ OpIn o) : (opsB l).length ≤ 306 := by
  have a1 := natB_le2 l.length (by omega)
  have a2 := flatM_le opB 38 l (fun o ho => opB_le (h o ho).1 (h o ho).2)
  unfold opsB
  rw [List.length_append]
  omega
theorem size_mk (l : List UInt8) : (⟨l.toArray⟩ : ByteArray).size = l.length := by simp [ByteArray.size]
theorem bodyM_le {m : MsgV} (h : mayM m = true) (hi : MsgIn m) : (bodyM m).length ≤ 1000 := by
  obtain ⟨k0, k1, k2, k3, k4, k5, k6, k7, k8, k9, k10, k11⟩ := mayM_fits h
  have a0 := natB_le m.kd.toNat (by omega)
  have a1 := natB_le m.fr.toNat (by omega)
  have a2 := natB_le m.tt.toNat (by omega)
  have a3 := natB_le m.g.toNat (by omega)
  have a4 := natB_le m.nd.toNat (by omega)
  have a5 := natB_le m.tr.toNat (by omega)
  have a6 := natB_le m.lw.toNat (by omega)
  have a7 := natB_le m.co.toNat (by omega)
  have a8 := natB_le m.ti.toNat (by omega)
  have a9 := natB_le m.tl.length (by omega)
  have b1 := flatM_le (fun x => natB (numN x)) 9 m.tl (fun x hx => natB_le _ (numN_le' (hi.told x hx).1 (hi.told x hx).2))
  have b2 := opsB_le k10 (fun o ho => ⟨k11 o ho, hi.ops o ho⟩)
  have b3 := natB_le (opsB m.os).length (by omega)
  unfold bodyM natsB numsB strB
  rw [size_mk]
  simp only [List.flatMap_cons, List.flatMap_nil, List.length_append, List.length_nil]
  omega
theorem decB_back {m : MsgV} (h : mayM m = true) (hi : MsgIn m) : decB (bodyM m) = some m := by
  have F := mayM_fits h
  obtain ⟨k0, k1, k2, k3, k4, k5, k6, k7, k8, k9, k10, k11⟩ := F
  have hops := opsB_le k10 (fun o ho => ⟨k11 o ho, hi.ops o ho⟩)
  have h0 : (bodyM m).drop 0 = [m.kd.toNat, m.fr.toNat, m.tt.toNat, m.g.toNat, m.nd.toNat, m.tr.toNat, m.lw.toNat, m.co.toNat, m.ti.toNat, m.tl.length].flatMap natB ++ ((m.tl.map numN).flatMap natB ++ (strB ⟨(opsB m.os).toArray⟩ ++ [])) := by
    unfold bodyM natsB numsB
    simp only [List.flatMap_cons, List.flatMap_nil, List.drop_zero, List.append_nil, List.append_assoc, List.flatMap_map]
  obtain ⟨e1, e2⟩ := hdS_back _ (fun x hx => by
    simp only [List.mem_cons, List.not_mem_nil, or_false] at hx
    omega) h0
  obtain ⟨f1, f2⟩ := hdS_back (m.tl.map numN) (fun x hx => by
    obtain ⟨y, hy, rfl⟩ := List.mem_map.1 hx
    exact numN_le' (hi.told y hy).1 (hi.told y hy).2) e2
  rw [List.length_map] at f1
  obtain ⟨g1, g2⟩ := strS_back (most := 16384) (by rw [size_mk]; omega) (by omega) f2
  have hlen : ([m.kd.toNat, m.fr.toNat, m.tt.toNat, m.g.toNat, m.nd.toNat, m.tr.toNat, m.lw.toNat, m.co.toNat, m.ti.toNat, m.tl.length].flatMap natB).length + ((m.tl.map numN).flatMap natB).length + (strB ⟨(opsB m.os).toArray⟩).length = (bodyM m).length := by
    have := congrArg List.length h0
    simp only [List.length_append, List.drop_zero, List.length_nil] at this
    omega
  rw [Nat.zero_add] at e1 e2 f1 f2 g1
  rw [hlen] at g1
  have hmany : manyS [m.kd.toNat, m.fr.toNat, m.tt.toNat, m.g.toNat, m.nd.toNat, m.tr.toNat, m.lw.toNat, m.co.toNat, m.ti.toNat, m.tl.length] = m.tl.length := by
    show min m.tl.length 9 = m.tl.length
    omega
  have hof : msgOf [m.kd.toNat, m.fr.toNat, m.tt.toNat, m.g.toNat, m.nd.toNat, m.tr.toNat, m.lw.toNat, m.co.toNat, m.ti.toNat, m.tl.length] (m.tl.map numN) m.os = m := by
    have e : (m.tl.map numN).map numV = m.tl := by
      rw [List.map_map]
      conv => rhs; rw [← List.map_id m.tl]
      apply List.map_congr_left
      intro x _
      simp [numV_numN]
    have c : ∀ x : Int, 0 ≤ x → x ≤ 1048577 → cutS x.toNat = x := fun x h1 h2 => by unfold cutS; omega
    have w : wrapS m.ti.toNat = m.ti := by unfold wrapS; rw [if_pos (by omega)]; omega
    simp only [msgOf]
    rw [e, c m.kd (by omega) (by omega), c m.fr (by omega) (by omega), c m.tt (by omega) (by omega), c m.g (by omega) (by omega), c m.nd (by omega) (by omega), c m.tr (by omega) (by omega), c m.lw (by omega) (by omega), c m.co (by omega) (by omega), w]
  unfold decB
  have e1' : hdS (bodyM m) 10 (some 0) = _ := e1
  rw [e1']
  simp only
  rw [hmany, f1]
  simp only
  rw [g1]
  simp only
  rw [decO_back (by omega) (fun o ho => ⟨k11 o ho, hi.ops o ho⟩)]
  simp only
  rw [hof, if_pos ⟨trivial, h⟩]
def decM (bs : List UInt8) : Option MsgV := if firstP bs ≠ 0 ∧ firstP bs = bs.length then decB (bodyP bs) else none
theorem bodyP_frame {l : List UInt8} (hl : l.length ≤ 16384) : bodyP (frameB l) = l := by
  have h1 := szP_frame hl []
  rw [List.append_nil] at h1
  unfold bodyP
  rw [h1]
  unfold frameB preB headB
  simp
theorem frame_of_first {bs : List UInt8} (h1 : firstP bs ≠ 0) (h2 : firstP bs = bs.length) : bs = frameB (bodyP bs) ∧ (bodyP bs).length ≤ 16384 := by
  obtain ⟨l, e1, e2, e3, e4, e5, e6⟩ := firstP_pos h1
  have hd : bs.drop (l.length + 7) = [] := List.drop_eq_nil_of_le (by omega)
  rw [hd, List.append_nil] at e5
  have : bodyP bs = l := e1.symm
  rw [this]
  exact ⟨e5, e3⟩
theorem decM_only {bs : List UInt8} {m : MsgV} (h : decM bs = some m) : bs = encM m ∧ mayM m = true ∧ MsgIn m := by
  unfold decM at h
  split at h
  · rename_i hf
    obtain ⟨e1, e2, e3⟩ := decB_only h
    refine ⟨?_, e2, e3⟩
    unfold encM
    rw [← e1]
    exact (frame_of_first hf.1 hf.2).1
  · cases h
theorem decM_back {m : MsgV} (h : mayM m = true) (hi : MsgIn m) : decM (encM m) = some m := by
  have hl := bodyM_le h hi
  have h1 := firstP_frame (l := bodyM m) (by omega) []
  rw [List.append_nil] at h1
  unfold decM encM
  rw [if_pos ⟨by omega, by rw [h1, frameB_len]⟩, bodyP_frame (by omega)]
  exact decB_back h hi
end Go.Proofs.YtmbonngjkgcijaaGreatDoor

namespace Go.Proofs.YtmbonngjkgcijaaGreatDoor
open Go.RowKit Go.Shelf

set_option maxRecDepth 100000 in
set_option maxHeartbeats 1000000 in
theorem fits_int (b : Bool) (n lo hi : Int) (w : World) :
    Calls Tryz.prog 113 #[.bool b, .int .i64 n, .int .i64 lo, .int .i64 hi] w fun e w' => e = .returned (.bool (fitP b n lo hi)) ∧ w = w' := by
  cases b with
  | false =>
    go_enter Tryz.func113, Tryz.ntmps113
    go_wp2_with fail
    go_ret
    exact ⟨ret_bool (by unfold fitP; rw [if_neg (by decide)]; cases h : (n == 0) <;> simp_all), rfl⟩
  | true =>
    by_cases h : lo ≤ n
    · have HK : Hid (fitP true n lo hi = decide (n ≤ hi)) := Lib.hid (by unfold fitP; simp [h])
      go_enter Tryz.func113, Tryz.ntmps113
      go_wp2_with fail
      go_ret
      exact ⟨ret_bool HK.out.symm, rfl⟩
    · have HK : Hid (fitP true n lo hi = false) := Lib.hid (by unfold fitP; simp [h])
      go_enter Tryz.func113, Tryz.ntmps113
      go_wp2_with fail
      go_ret
      exact ⟨ret_bool HK.out.symm, rfl⟩
set_option maxRecDepth 100000 in
set_option maxHeartbeats 1000000 in
theorem fits_i64 (b : Bool) (n lo hi : Int) (w : World) :
    Calls Tryz.prog 115 #[.bool b, .int .i64 n, .int .i64 lo, .int .i64 hi] w fun e w' => e = .returned (.bool (fitP b n lo hi)) ∧ w = w' := by
  cases b with
  | false =>
    go_enter Tryz.func115, Tryz.ntmps115
    go_wp2_with fail
    go_ret
    exact ⟨ret_bool (by unfold fitP; rw [if_neg (by decide)]; cases h : (n == 0) <;> simp_all), rfl⟩
  | true =>
    by_cases h : lo ≤ n
    · have HK : Hid (fitP true n lo hi = decide (n ≤ hi)) := Lib.hid (by unfold fitP; simp [h])
      go_enter Tryz.func115, Tryz.ntmps115
      go_wp2_with fail
      go_ret
      exact ⟨ret_bool HK.out.symm, rfl⟩
    · have HK : Hid (fitP true n lo hi = false) := Lib.hid (by unfold fitP; simp [h])
      go_enter Tryz.func115, Tryz.ntmps115
      go_wp2_with fail
      go_ret
      exact ⟨ret_bool HK.out.symm, rfl⟩
set_option maxRecDepth 100000 in
set_option maxHeartbeats 1000000 in
theorem fits_errno (b : Bool) (n lo hi : Int) (w : World) :
    Calls Tryz.prog 114 #[.bool b, .int .i64 n, .int .i64 lo, .int .i64 hi] w fun e w' => e = .returned (.bool (fitP b n lo hi)) ∧ w = w' := by
  cases b with
  | false =>
    go_enter Tryz.func114, Tryz.ntmps114
    go_wp2_with fail
    go_ret
    exact ⟨ret_bool (by unfold fitP; rw [if_neg (by decide)]; cases h : (n == 0) <;> simp_all), rfl⟩
  | true =>
    by_cases h : lo ≤ n
    · have HK : Hid (fitP true n lo hi = decide (n ≤ hi)) := Lib.hid (by unfold fitP; simp [h])
      go_enter Tryz.func114, Tryz.ntmps114
      go_wp2_with fail
      go_ret
      exact ⟨ret_bool HK.out.symm, rfl⟩
    · have HK : Hid (fitP true n lo hi = false) := Lib.hid (by unfold fitP; simp [h])
      go_enter Tryz.func114, Tryz.ntmps114
      go_wp2_with fail
      go_ret
      exact ⟨ret_bool HK.out.symm, rfl⟩
theorem not_kind {k : Int} (h : ¬ ((1 ≤ k ∧ k ≤ 4) ∨ (11 ≤ k ∧ k ≤ 16))) : kindM k = false ∧ tryM k = false ∧ lowM k = false ∧ opsM k = false ∧ toldM k = false ∧ codeM k = false := by
  unfold kindM tryM lowM opsM toldM codeM
  simp only [decide_eq_false_iff_not]
  omega
set_option maxRecDepth 100000 in
set_option maxHeartbeats 4000000 in
theorem of_any' (k : Int) (w : World) :
    Calls Tryz.prog 112 #[.int .i64 k] w fun e w' => e = .returned (.tuple #[.agg #[.bool (tryM k), .bool (lowM k), .bool (opsM k), .bool (toldM k), .bool (codeM k)], .bool (kindM k)]) ∧ Below w.heap.size w w' := by
  have hat := alloc_at w (.cells #[.bool false, .bool false, .bool false, .bool false, .bool false] 182)
  have HB : Hid (Below w.heap.size w (w.alloc (.cells #[.bool false, .bool false, .bool false, .bool false, .bool false] 182))) := Lib.hid (below_new _)
  clear hat
  by_cases hk : (1 ≤ k ∧ k ≤ 4) ∨ (11 ≤ k ∧ k ≤ 16)
  · have hcs : k = 1 ∨ k = 2 ∨ k = 3 ∨ k = 4 ∨ k = 11 ∨ k = 12 ∨ k = 13 ∨ k = 14 ∨ k = 15 ∨ k = 16 := by omega
    clear hk
    rcases hcs with rfl | rfl | rfl | rfl | rfl | rfl | rfl | rfl | rfl | rfl
    all_goals
      go_enter Tryz.func112, Tryz.ntmps112
      go_wp2_with fail
      refine bodyPost_ret (v := _) (by simp [results, Tryz.results112, go_sem, tryM, lowM, opsM, toldM, codeM, kindM]) rfl ⟨rfl, ?_⟩
      exact below_new _
  · obtain ⟨h1, h2, h3, h4, h5, h6⟩ := not_kind hk
    have g1 : ¬ k = 1 := by omega
    have g2 : ¬ k = 2 := by omega
    have g3 : ¬ k = 3 := by omega
    have g4 : ¬ k = 4 := by omega
    have g5 : ¬ k = 11 := by omega
    have g6 : ¬ k = 12 := by omega
    have g7 : ¬ k = 13 := by omega
    have g8 : ¬ k = 14 := by omega
    have g9 : ¬ k = 15 := by omega
    have g10 : ¬ k = 16 := by omega
    rw [h1, h2, h3, h4, h5, h6]
    clear hk h1 h2 h3 h4 h5 h6
    go_enter Tryz.func112, Tryz.ntmps112
    go_wp2_with fail
    refine bodyPost_ret (v := .tuple #[.agg #[.bool false, .bool false, .bool false, .bool false, .bool false], .bool false]) (by simp [results, Tryz.results112, go_sem]) rfl ⟨rfl, ?_⟩
    exact below_new _
end Go.Proofs.YtmbonngjkgcijaaGreatDoor

namespace Go.Proofs.YtmbonngjkgcijaaGreatDoor
open Go.RowKit Go.Shelf

/-- A slice that reads as numbers, wherever it lies. -/
def NumsAt (w : World) (v : Value) (l : List Int) : Prop := ∃ A cap, v = .slice A l.length cap ∧ l.length ≤ cap ∧ cap ≤ maxLen ∧ ∀ (i : Nat) (x : Int), l[i]? = some x → ∃ a : Addr, A = some a ∧ a.block < w.heap.size ∧ w.cell? (a.add i) = some (.int .i64 x)
theorem NumsAt.below {w w' : World} {v : Value} {l : List Int} (h : NumsAt w v l) (hb : Below w.heap.size w w') : NumsAt w' v l := by
  obtain ⟨A, cap, e, h1, h2, h3⟩ := h
  refine ⟨A, cap, e, h1, h2, fun i x hi => ?_⟩
  obtain ⟨a, q0, q1, k0⟩ := h3 i x hi
  exact ⟨a, q0, Nat.lt_of_lt_of_le q1 hb.size, (hb.cell (by rw [add_block]; exact q1)).trans k0⟩
/-- Numbers in a block of their own. -/
theorem nums_new (w : World) (l : List Int) (n : Nat) (hn : l.length = n) (hl : n ≤ 1000) (cs : Array Value) (hcs : cs = (l.map fun x => Value.int .i64 x).toArray) (t : TypeId) : NumsAt (w.alloc (.cells cs t)) (.slice (some ⟨w.heap.size, 0, none⟩) n n) l := by
  subst hn hcs
  refine ⟨some ⟨w.heap.size, 0, none⟩, l.length, rfl, Nat.le_refl _, by unfold maxLen; omega, fun i x hi => ⟨_, rfl, by rw [asz]; exact Nat.lt_succ_self _, ?_⟩⟩
  rw [add0, cell_of (alloc_at w _)]
  simp [hi]
theorem natB_ne (n : Nat) : natB n ≠ [] := by unfold natB; simp
theorem natsB_le (l : List Int) (h : ∀ x ∈ l, 0 ≤ x ∧ x ≤ 9223372036854775807) : (natsB l).length ≤ l.length * 9 := flatM_le _ 9 l (fun x hx => natB_le _ (by have := h x hx; omega))
theorem flat_snocM {α : Type} {f : α → List UInt8} {p : List α} {j : Nat} {r : α} (h : p[j]? = some r) : (p.take (j + 1)).flatMap f = (p.take j).flatMap f ++ f r := by
  rw [List.take_add_one, h]
  simp
set_option maxRecDepth 100000 in
set_option maxHeartbeats 2000000 in
theorem nats_any {w : World} {v : Value} {l : List Int} (h : NumsAt w v l) (hx : ∀ x ∈ l, 0 ≤ x ∧ x ≤ 9223372036854775807) (hl : l.length ≤ 1000) :
    Calls Tryz.prog 143 #[v] w fun e w' => ∃ v', e = .returned v' ∧ OwnBy w' w.heap.size v' (natsB l) ∧ Below w.heap.size w w' := by
  obtain ⟨A, cap, rfl, hc1, hc2, hcell⟩ := h
  unfold maxLen at hc2
  have HC := Lib.hid hcell
  have HX := Lib.hid hx
  obtain ⟨m, hm⟩ : ∃ m, l.length = m := ⟨_, rfl⟩
  have HM := Lib.hid hm
  rw [hm] at hc1 hl ⊢
  have hmI : (m : Int) ≤ 1000 := by omega
  clear hcell hx hm
  go_enter Tryz.func143, Tryz.ntmps143
  go_wp2_with fail
  go_loopw [3, 8] (fun bv iv wr => ∃ i : Nat, i ≤ m ∧ iv = .int .i64 i ∧ OwnBy wr w.heap.size bv (natsB (l.take i)) ∧ Below w.heap.size w wr) (fun _ iv _ => m - (intOf iv).toNat)
  case atStart => exact ⟨0, Nat.zero_le _, rfl, .inl ⟨rfl, rfl⟩, Below.refl _ _⟩
  case round =>
    obtain ⟨i, hi, rfl, ho, hbw⟩ := hrel
    by_cases hlt : i < m
    · obtain ⟨x, hxi⟩ : ∃ x, l[i]? = some x := ⟨_, List.getElem?_eq_getElem (by rw [HM.out]; exact hlt)⟩
      obtain ⟨a, rfl, q1, k0⟩ := HC.out i x hxi
      replace k0 := (hbw.cell (by rw [add_block]; exact q1)).trans k0
      obtain ⟨hx0, hx1⟩ := HX.out x (List.mem_of_getElem? hxi)
      obtain ⟨n, rfl⟩ : ∃ n : Nat, x = n := ⟨x.toNat, by omega⟩
      have HNT := Lib.hid (onat_any n (by omega) wr)
      have hw : IntKind.u64.wrap (n : Int) = (n : Int) := by rw [IntKind.wrap_u64]; omega
      have HSN : Hid (natsB (l.take (i + 1)) = natsB (l.take i) ++ natB n) := Lib.hid (by unfold natsB; rw [flat_snocM hxi]; simp)
      have HLN : Hid ((natsB (l.take i)).length + (natB n).length ≤ 1073741824) := Lib.hid (by
        have h1 := natsB_le (l.take i) (fun y hy => HX.out y (List.mem_of_mem_take hy))
        have h2 := natB_le n (by omega)
        rw [List.length_take] at h1
        omega)
      have hiI : (i : Int) < (m : Int) := by omega
      have HLT := Lib.hid hlt
      have HO := Lib.hid ho
      have HB := Lib.hid hbw
      obtain ⟨Ab, cb, rfl⟩ := ho.len
      clear hxi q1 hx0 hx1 ho hbw hlt hi
      go_wp2_with fail
      refine (HNT.out).mono ?_
      rintro e w2 ⟨v2, rfl, ho2, hb2⟩
      have HOL := Lib.hid (HO.out.below hb2)
      have HSRC := Lib.hid (src_any ho2)
      have HB2 := Lib.hid (HB.out.trans (hb2.mono HB.out.size))
      obtain ⟨A2, c2, rfl⟩ := ho2.len
      clear ho2 hb2 HNT k0
      go_wp2_with (at_builtin; refine wpList_append_by _ rfl _ _ 54 rfl w.heap.size (natsB (l.take i)) (natB n) _ _ rfl rfl HOL.out HSRC.out HLN.out HB2.out.size ?_)
      intro v4 w4 ho4 hg4
      have HB4 := Lib.hid (HB2.out.grown hg4 HB2.out.size HOL.out.rows)
      have HO4 := Lib.hid ho4
      clear ho4 hg4
      go_wp2_with fail
      go_roundw
      case rel => exact ⟨i + 1, HLT.out, by go_num, by rw [HSN.out]; exact HO4.out, HB4.out⟩
      case measure => have := HLT.out; simp [intOf]; omega
    · obtain rfl : i = m := by omega
      rw [List.take_of_length_le (by rw [HM.out]; omega)] at ho
      have HO := Lib.hid ho
      have HB := Lib.hid hbw
      obtain ⟨Ab, cb, rfl⟩ := ho.len
      clear ho hbw
      go_wp2_with fail
      go_ret
      exact ⟨_, rfl, HO.out, HB.out⟩
theorem numsB_le (l : List Int) (hl : l.length ≤ 1000) (h : ∀ x ∈ l, -9223372036854775808 ≤ x ∧ x ≤ 9223372036854775807) : (l.flatMap fun x => natB (numN x)).length ≤ l.length * 9 := flatM_le _ 9 l (fun x hx => natB_le _ (numN_le' (h x hx).1 (h x hx).2))
set_option maxRecDepth 100000 in
set_option maxHeartbeats 2000000 in
theorem nums_any {w : World} {v : Value} {l : List Int} (h : NumsAt w v l) (hx : ∀ x ∈ l, -9223372036854775808 ≤ x ∧ x ≤ 9223372036854775807) (hl : l.length ≤ 1000) :
    Calls Tryz.prog 145 #[v] w fun e w' => ∃ v', e = .returned v' ∧ OwnBy w' w.heap.size v' (numsB l) ∧ Below w.heap.size w w' := by
  have hNA := h
  obtain ⟨A, cap, rfl, hc1, hc2, hcell⟩ := h
  unfold maxLen at hc2
  have HC := Lib.hid hcell
  have HX := Lib.hid hx
  obtain ⟨m, hm⟩ : ∃ m, l.length = m := ⟨_, rfl⟩
  have HM := Lib.hid hm
  rw [hm] at hc1 hl ⊢
  have hmI : (m : Int) ≤ 1000 := by omega
  have hn1 := nums_new w [(m : Int)] 1 rfl (by omega) #[.int .i64 m] (by simp) 3
  have HNT := Lib.hid (nats_any hn1 (fun x hx => by obtain rfl := List.mem_singleton.1 hx; omega) (by simp))
  have HBN := Lib.hid (below_new (w := w) (.cells #[.int .i64 m] 3))
  have HN1 : Hid (natsB [(m : Int)] = natB m) := Lib.hid (by simp [natsB])
  have HN9 := Lib.hid (natB_le m (by omega))
  clear hcell hx hm hNA hn1
  go_enter Tryz.func145, Tryz.ntmps145
  go_wp2_with fail
  refine (HNT.out).mono ?_
  rintro e w1 ⟨v1, rfl, ho1, hb1⟩
  rw [HN1.out] at ho1
  have HO1 := Lib.hid (ho1.lower HBN.out.size)
  have HB1 := Lib.hid (HBN.out.trans (hb1.mono HBN.out.size))
  obtain ⟨A1, c1, rfl⟩ := ho1.len
  clear ho1 hb1 HNT
  go_wp2_with fail
  go_loopw [3, 12] (fun bv iv wr => ∃ i : Nat, i ≤ m ∧ iv = .int .i64 i ∧ OwnBy wr w.heap.size bv (natB m ++ (l.take i).flatMap fun x => natB (numN x)) ∧ Below w.heap.size w wr) (fun _ iv _ => m - (intOf iv).toNat)
  case atStart => exact ⟨0, Nat.zero_le _, rfl, by simpa using HO1.out, HB1.out⟩
  case round =>
    obtain ⟨i, hi, rfl, ho, hbw⟩ := hrel
    by_cases hlt : i < m
    · obtain ⟨x, hxi⟩ : ∃ x, l[i]? = some x := ⟨_, List.getElem?_eq_getElem (by rw [HM.out]; exact hlt)⟩
      obtain ⟨a, rfl, q1, k0⟩ := HC.out i x hxi
      replace k0 := (hbw.cell (by rw [add_block]; exact q1)).trans k0
      obtain ⟨hx0, hx1⟩ := HX.out x (List.mem_of_getElem? hxi)
      have HNT := Lib.hid (onum_any x hx0 hx1 wr)
      obtain ⟨B, hB⟩ : ∃ B, B = natB m ++ (l.take i).flatMap fun x => natB (numN x) := ⟨_, rfl⟩
      rw [← hB] at ho
      have HSN : Hid (natB m ++ (l.take (i + 1)).flatMap (fun x => natB (numN x)) = B ++ natB (numN x)) := Lib.hid (by rw [flat_snocM hxi, hB, List.append_assoc])
      have HLN : Hid (B.length + (natB (numN x)).length ≤ 1073741824) := Lib.hid (by
        have h1 := numsB_le (l.take i) (by rw [List.length_take]; omega) (fun y hy => HX.out y (List.mem_of_mem_take hy))
        have h2 := natB_le _ (numN_le' hx0 hx1)
        have h3 := HN9.out
        rw [List.length_take] at h1
        rw [hB, List.length_append]
        omega)
      have hiI : (i : Int) < (m : Int) := by omega
      have HLT := Lib.hid hlt
      have HO := Lib.hid ho
      have HB := Lib.hid hbw
      obtain ⟨Ab, cb, rfl⟩ := ho.len
      clear hxi q1 hx0 hx1 ho hbw hlt hi hB
      go_wp2_with fail
      refine (HNT.out).mono ?_
      rintro e w2 ⟨v2, rfl, ho2, hb2⟩
      have HOL := Lib.hid (HO.out.below hb2)
      have HSRC := Lib.hid (src_any ho2)
      have HB2 := Lib.hid (HB.out.trans (hb2.mono HB.out.size))
      obtain ⟨A2, c2, rfl⟩ := ho2.len
      clear ho2 hb2 HNT k0
      go_wp2_with (at_builtin; refine wpList_append_by _ rfl _ _ 54 rfl w.heap.size B (natB (numN x)) _ _ rfl rfl HOL.out HSRC.out HLN.out HB2.out.size ?_)
      intro v4 w4 ho4 hg4
      have HB4 := Lib.hid (HB2.out.grown hg4 HB2.out.size HOL.out.rows)
      have HO4 := Lib.hid ho4
      clear ho4 hg4
      go_wp2_with fail
      go_roundw
      case rel => exact ⟨i + 1, HLT.out, by go_num, by rw [HSN.out]; exact HO4.out, HB4.out⟩
      case measure => have := HLT.out; simp [intOf]; omega
    · obtain rfl : i = m := by omega
      rw [List.take_of_length_le (by rw [HM.out]; omega)] at ho
      have en : natB i ++ l.flatMap (fun x => natB (numN x)) = numsB l := by unfold numsB; rw [HM.out]
      rw [en] at ho
      have HO := Lib.hid ho
      have HB := Lib.hid hbw
      obtain ⟨Ab, cb, rfl⟩ := ho.len
      clear ho en hbw
      go_wp2_with fail
      go_ret
      exact ⟨_, rfl, HO.out, HB.out⟩
end Go.Proofs.YtmbonngjkgcijaaGreatDoor
