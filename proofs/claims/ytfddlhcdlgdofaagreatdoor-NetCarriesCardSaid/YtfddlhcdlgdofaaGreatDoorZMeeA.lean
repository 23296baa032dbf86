/- mess.small, told; the reader beside a row of one's own. ops.next; mess.read. -/
import Derived.Test.YtfddlhcdlgdofaaGreatDoorZMecC
set_option linter.unusedSimpArgs false
set_option linter.unusedVariables false
set_option linter.unnecessarySimpa false
namespace Go.Proofs.YtfddlhcdlgdofaaGreatDoor
open Go.RowKit Go.Shelf

/-- Cells set one behind the other: what the block holds then. -/
theorem setCells_block (b : Nat) : ∀ (vs : List Value) (o : Nat) (w : World) (k : Nat), k ≠ b → (w.setCells b o vs).heap[k]? = w.heap[k]?
  | [], _, _, _, _ => rfl
  | v :: r, o, w, k, h => (setCells_block b r (o + 1) (w.setCell ⟨b, o, none⟩ v) k h).trans (Below.heap_setCell _ _ _ _ h)
theorem setCells_at (b : Nat) {T : TypeId} : ∀ (vs pre rest : List Value) (w : World), rest.length = vs.length → w.heap[b]? = some (.cells (pre ++ rest).toArray T (0, 0)) → (w.setCells b pre.length vs).heap[b]? = some (.cells (pre ++ vs).toArray T (0, 0))
  | [], pre, rest, w, hl, h => by
    obtain rfl := List.length_eq_zero_iff.1 hl
    exact h
  | v :: r, pre, [], w, hl, h => by simp at hl
  | v :: r, pre, y :: rest, w, hl, h => by
    have h1 := set_at h pre.length v
    have e : (pre ++ y :: rest).toArray.setIfInBounds pre.length v = ((pre ++ [v]) ++ rest).toArray := by simp
    rw [e] at h1
    have := setCells_at b r (pre ++ [v]) rest _ (by simpa using hl) h1
    simp only [List.length_append, List.length_singleton, List.append_assoc, List.singleton_append] at this
    exact this
theorem setCells_touch {S : Nat → Prop} {a : World} (b : Nat) (hb : b < a.heap.size → S b) : ∀ (vs : List Value) (o : Nat) (w : World), Touch S a w → Touch S a (w.setCells b o vs)
  | [], _, _, h => h
  | v :: r, o, w, h => setCells_touch b hb r (o + 1) _ (h.setCell ⟨b, o, none⟩ hb v)
theorem Only.touch {g : Nat} {w w' : World} (h : Only g w w') : Touch (fun k => k = g) w w' := ⟨h.os, h.tape, h.output, h.size, fun k hk hne => h.block k hk hne⟩
theorem Only.of_touch {g : Nat} {w w' : World} (h : Touch (fun k => k = g) w w') : Only g w w' := ⟨h.os, h.tape, h.output, h.size, fun k hk hne => h.block k hk hne⟩
theorem Glob.only {g : Nat} {w w' : World} (h : Glob w) (ho : Only g w w') (hg : g ≠ 1) : Glob w' := (World.cell?_of_block (a := ⟨1, 0, none⟩) (ho.block 1 h.lt (Ne.symm hg))).trans h
/-- A block that begins with a number of 64 bits is none of an error's. -/
theorem ErrIs.apart {w w' : World} {b : Nat} {z : Int} (hc : w.cell? ⟨b, 0, none⟩ = some (.int .i64 z)) (ht : Touch (fun k => k = b) w w') : ∀ (c : List Lk) (v : Value), ErrIs w c v → ErrIs w' c v := by
  have key : ∀ (cs : Array Value) (x : Value) (k : Nat) (t : TypeId), w.heap[k]? = some (.cells cs t (0, 0)) → cs[0]? = some x → (∃ t u, x = .iface t u) → w'.heap[k]? = some (.cells cs t (0, 0)) := fun cs x k t h h0 hx => by
    have hk : k ≠ b := fun e => by
      subst e
      rw [cell_of h, h0] at hc
      obtain ⟨t, u, rfl⟩ := hx
      cases hc
    rw [ht.block k (heap_lt h) hk]
    exact h
  intro c
  induction c with
  | nil => intro v h; exact h
  | cons k r ih =>
    intro v h
    cases k with
    | num e => exact h
    | plc p =>
      obtain ⟨h1, b', x, e, hb, hx⟩ := h
      exact ⟨h1, b', x, e, key _ x b' _ hb rfl (by cases r with | nil => exact absurd rfl h1 | cons k r => exact hx.form1), ih x hx⟩
    | nam s =>
      obtain ⟨h1, b', x, e, hb, hx⟩ := h
      exact ⟨h1, b', x, e, key _ x b' _ hb rfl (by cases r with | nil => exact absurd rfl h1 | cons k r => exact hx.form1), ih x hx⟩
    | bnd l g =>
      obtain ⟨h1, b', x, e, hb, hx⟩ := h
      exact ⟨h1, b', x, e, key _ x b' _ hb rfl (by cases r with | nil => exact absurd rfl h1 | cons k r => exact hx.form1), ih x hx⟩
theorem Rd.apart {w w' : World} {g : Nat} {A : Option Addr} {cap : Nat} {bs : List UInt8} {pos : Nat} {ev : Value} {c : List Lk} {b : Nat} {z : Int} (h : Rd w g A cap bs pos ev c) (hc : w.cell? ⟨b, 0, none⟩ = some (.int .i64 z)) (ht : Touch (fun k => k = b) w w') : Rd w' g A cap bs pos ev c := by
  have hgb : g ≠ b := fun e => by
    subst e
    rw [cell_of h.blk] at hc
    cases hc
  refine ⟨(ht.block g (heap_lt h.blk) hgb).trans h.blk, h.err.apart hc ht, h.le, h.max, h.pos_le, fun i x hi => ?_⟩
  obtain ⟨gb, q1, q2, q3, q4⟩ := h.byt i x hi
  have h0 : 0 < bs.length := Nat.lt_of_le_of_lt (Nat.zero_le _) (List.getElem?_eq_some_iff.1 hi).1
  obtain ⟨gb', p1, _, _, p4⟩ := h.byt 0 bs[0] (List.getElem?_eq_getElem h0)
  obtain rfl : gb' = gb := by
    have := p1.symm.trans q1
    injection this with e
    injection e
  have hne : gb' ≠ b := fun e => by
    subst e
    rw [p4] at hc
    cases hc
  exact ⟨gb', q1, q2, Nat.lt_of_lt_of_le q3 ht.size, (World.cell?_of_block (a := ⟨gb', i, none⟩) (ht.block gb' q3 hne)).trans q4⟩
theorem RdS.apart {w w' : World} {g : Nat} {A : Option Addr} {cap : Nat} {bs : List UInt8} {st : Option Nat} {b : Nat} {z : Int} (h : RdS w g A cap bs st) (hc : w.cell? ⟨b, 0, none⟩ = some (.int .i64 z)) (ht : Touch (fun k => k = b) w w') : RdS w' g A cap bs st := by
  cases st with
  | none =>
    obtain ⟨p, e, t, u, h1, h2, h3, h⟩ := h
    exact ⟨p, e, t, u, h1, h2, h3, h.apart hc ht⟩
  | some p => exact Rd.apart h hc ht
/-- A row of one's own that is nil, or begins with a number. -/
def RowN (w : World) (B z : Nat) (v : Value) (n : Nat) (l : List Value) : Prop := RowIs w z v n l ∧ (∀ b, v.ownBlock = some b → B ≤ b ∧ ∃ x, l[0]? = some (.int .i64 x)) ∧ (l = [] → v = .slice none 0 0)
theorem RowN.cell {w : World} {B z : Nat} {v : Value} {n : Nat} {l : List Value} (h : RowN w B z v n l) {b : Nat} (hb : v.ownBlock = some b) : ∃ x, w.cell? ⟨b, 0, none⟩ = some (.int .i64 x) := by
  obtain ⟨x, hx⟩ := (h.2.1 b hb).2
  rcases h.1 with ⟨rfl, _⟩ | ⟨g, cap, rfl, _, _, hr⟩
  · cases hb
  · cases hb
    exact ⟨x, hr.holds 0 _ hx⟩
/-- Behind an append onto such a row the reader is as it was. -/
theorem RdS.grown {w w' : World} {g : Nat} {A : Option Addr} {cap : Nat} {bs : List UInt8} {st : Option Nat} {B z : Nat} {v : Value} {n : Nat} {l : List Value} (h : RdS w g A cap bs st) (hr : RowN w B z v n l) (hg : w.grownBy w' v.ownBlock) : RdS w' g A cap bs st := by
  have ht := (Touch.refl (fun k => v.ownBlock = some k) w).grown hg (fun k e _ => e)
  cases hv : v.ownBlock with
  | none =>
    refine h.below ⟨ht.os, ht.tape, ht.output, ht.size, fun k hk => ht.block k hk (fun e => ?_)⟩
    rw [hv] at e
    cases e
  | some b =>
    obtain ⟨x, hx⟩ := hr.cell hv
    refine h.apart hx (ht.mono fun k _ e => ?_)
    rw [hv] at e
    exact (Option.some.inj e).symm
theorem RowN.grown {w w' : World} {B z : Nat} {v v' : Value} {n n' : Nat} {l l' : List Value} (h : RowN w B z v n l) (hb : B ≤ w.heap.size) (hr : RowIs w' z v' n' l') (hv : v'.ownBlock = v.ownBlock ∨ v'.ownBlock = some w.heap.size) (h0 : ∃ x, l'[0]? = some (.int .i64 x)) : RowN w' B z v' n' l' := by
  refine ⟨hr, fun b e => ⟨?_, h0⟩, fun e => ?_⟩
  · rcases hv with e2 | e2
    · exact (h.2.1 b (e2 ▸ e)).1
    · rw [e2] at e
      have := Option.some.inj e
      omega
  · obtain ⟨x, hx⟩ := h0
    rw [e] at hx
    cases hx
set_option maxRecDepth 100000 in
set_option maxHeartbeats 1000000 in
theorem small_u {w : World} {g : Nat} {A : Option Addr} {cap : Nat} {bs : List UInt8} {st : Option Nat} (h : RdS w g A cap bs st) :
    Calls Tryz.prog 102 #[.pointer (some ⟨g, 0, none⟩)] w fun e w' => e = .returned (.int .i64 (cutS (natS bs st).1)) ∧ RdS w' g A cap bs (natS bs st).2 ∧ Only g w w' := by
  have HN := Lib.hid (nat_u h)
  have hle := natS_le bs st
  obtain ⟨n, s, hn⟩ : ∃ n s, natS bs st = (n, s) := ⟨_, _, rfl⟩
  rw [hn] at HN hle ⊢
  simp only at HN hle ⊢
  have HC : IntKind.i64.wrap (min (n : Int) 1048578) = cutS n := by
    unfold cutS
    rw [IntWalk.i64_in _ (by omega)]
    omega
  clear h hn hle
  go_enter Tryz.func102, Tryz.ntmps102
  go_wp2_with fail
  refine (HN.out).mono ?_
  rintro e w1 ⟨rfl, h1, h2⟩
  have HF := Lib.hid (And.intro h1 h2)
  clear h1 h2
  go_wp2_with fail
  go_ret
  exact ⟨rfl, HF.out⟩
def numC (l : List Nat) : List Value := l.map fun n => .int .i64 (numV n)
theorem infoI : (Tryz.prog.info? 2).map (fun i => (i.zero, i.size, i.bytes)) = some (some (.int .i64 0), 1, 8) := by kernel_rfl
theorem src_num {w : World} {x : Value} {t : TypeId} {b : Nat} (h : w.heap[b]? = some (.cells #[x] t (0, 0))) (hx : x.oneCell' = true) : Src Tryz.prog 1 34 (.slice (some ⟨b, 0, none⟩) 1 1) 1 [x] w :=
  Src.ofSlice _ Tryz.underlying34 ⟨b, 0, none⟩ 1 1 [x] rfl (fun j u hu => by
    rw [add0, cell_of h]
    simpa using hu) (by simpa using hx)
theorem numC_first {l : List Nat} (h : l ≠ []) : ∃ x, (numC l)[0]? = some (.int .i64 x) := by
  cases l with
  | nil => exact absurd rfl h
  | cons a r => exact ⟨_, rfl⟩
set_option maxRecDepth 100000 in
set_option maxHeartbeats 2000000 in
theorem told_u {w : World} {g : Nat} {A : Option Addr} {cap : Nat} {bs : List UInt8} {st : Option Nat} (h : RdS w g A cap bs st) :
    Calls Tryz.prog 104 #[.pointer (some ⟨g, 0, none⟩)] w fun e w' => ∃ v, e = .returned v ∧ RowN w' w.heap.size 1 v (min (natS bs st).1 9) (numC (hdS bs (min (natS bs st).1 9) (natS bs st).2).1) ∧ RdS w' g A cap bs (hdS bs (min (natS bs st).1 9) (natS bs st).2).2 ∧ Only g w w' := by
  have HN := Lib.hid (nat_u h)
  have hgl := h.lt
  obtain ⟨n, s1, hn⟩ : ∃ n s, natS bs st = (n, s) := ⟨_, _, rfl⟩
  rw [hn] at HN ⊢
  simp only at HN ⊢
  obtain ⟨k, hk⟩ : ∃ k, min n 9 = k := ⟨_, rfl⟩
  have hkI : min (n : Int) 9 = (k : Int) := by omega
  have hk9 : k ≤ 9 := by omega
  rw [hk]
  clear h hn hk
  go_enter Tryz.func104, Tryz.ntmps104
  go_wp2_with fail
  refine (HN.out).mono ?_
  rintro e w1 ⟨rfl, h1, h2⟩
  have HR := Lib.hid h1
  have HO := Lib.hid h2
  clear h1 h2 HN
  go_wp2_with fail
  go_loopw [3, 7] (fun bv iv wr => ∃ i : Nat, i ≤ k ∧ iv = .int .u64 i ∧ RowN wr w.heap.size 1 bv i (numC (hdS bs i s1).1) ∧ RdS wr g A cap bs (hdS bs i s1).2 ∧ Only g w wr) (fun _ iv _ => k - (intOf iv).toNat)
  case atStart => exact ⟨0, Nat.zero_le _, rfl, ⟨RowIs.nil _ _, (fun b e => by cases e), fun _ => rfl⟩, HR.out, HO.out⟩
  case round =>
    obtain ⟨i, hi, rfl, hrow, hR, hO⟩ := hrel
    by_cases hlt : i < k
    · have HNU := Lib.hid (num_u hR)
      have hsn := hdS_snoc bs i s1
      have hlen := hdS_len bs i s1
      obtain ⟨l, s2, hl⟩ : ∃ l s2, hdS bs i s1 = (l, s2) := ⟨_, _, rfl⟩
      rw [hl] at hrow HNU hsn hlen
      unfold numS at HNU
      obtain ⟨x, s3, hx⟩ : ∃ x s3, natS bs s2 = (x, s3) := ⟨_, _, rfl⟩
      simp only at hrow HNU hsn hlen
      rw [hx] at HNU hsn
      simp only at HNU hsn
      have HSN := Lib.hid hsn
      have HROW := Lib.hid hrow
      have HOW := Lib.hid hO
      have HLT := Lib.hid hlt
      have HLEN := Lib.hid hlen
      have hiI : (i : Int) < (k : Int) := by omega
      have hii : (i : Int) ≤ 9 := by omega
      obtain ⟨Al, cl, rfl, _⟩ := hrow.1.form
      clear hrow hsn hl hx hO hlt hR hlen
      go_wp2_with fail
      refine (HNU.out).mono ?_
      rintro e w3 ⟨rfl, hR3, hO3⟩
      have hb4 := below_new (w := w3) (.cells #[.int .i64 (numV x)] 2)
      have hat := alloc_at w3 (.cells #[.int .i64 (numV x)] 2)
      have HO3 := Lib.hid (HOW.out.trans (hO3.trans (Only.of_below hb4)))
      have HR3 := Lib.hid (hR3.below hb4)
      have HRW : Hid (RowN (w3.alloc (.cells #[.int .i64 (numV x)] 2)) w.heap.size 1 (.slice Al i cl) i (numC l)) := Lib.hid ⟨(HROW.out.1.touch hO3.touch (fun b e hbg => by have := (HROW.out.2.1 b e).1; omega)).below hb4, HROW.out.2⟩
      have HSRC := Lib.hid (src_num hat rfl)
      clear hR3 hO3 hb4 hat
      go_wp2_with (at_builtin; refine wpList_append_row _ _ Tryz.underlying34 infoI rfl (by decide) (by decide) _ rfl _ _ 34 rfl i 1 (numC l) [.int .i64 (numV x)] _ _ rfl rfl HRW.out.1 HSRC.out ?_ ?_)
      all_goals first | omega | skip
      intro v' w' hr5 hg5 hb5
      have HNEW : Hid (RowN w' w.heap.size 1 v' (i + 1) (numC (l ++ [x])) ∧ RdS w' g A cap bs s3 ∧ Only g w w') := Lib.hid (by
        have e : numC l ++ [.int .i64 (numV x)] = numC (l ++ [x]) := by simp [numC]
        rw [e] at hr5
        refine ⟨HRW.out.grown HO3.out.size hr5 (by rw [asz]; exact hb5) (numC_first (by simp)), HR3.out.grown HRW.out hg5, ?_⟩
        have ht := (Touch.refl (fun k => (Value.slice Al i cl).ownBlock = some k) (w3.alloc (.cells #[.int .i64 (numV x)] 2))).grown hg5 (fun k e _ => e)
        exact HO3.out.below_after (B := w.heap.size) (ht.below (fun b e => (HRW.out.2.1 b e).1) HO3.out.size) (Nat.le_refl _))
      clear hr5 hg5 hb5
      go_wp2_with fail
      go_roundw
      case rel => exact ⟨i + 1, HLT.out, by go_num, by rw [HSN.out]; exact HNEW.out.1, by rw [HSN.out]; exact HNEW.out.2.1, HNEW.out.2.2⟩
      case measure => have := HLT.out; simp [intOf]; omega
    · obtain rfl : i = k := by omega
      have HF := Lib.hid (And.intro hrow (And.intro hR hO))
      obtain ⟨Al, cl, rfl, _⟩ := hrow.1.form
      clear hrow hR hO
      go_wp2_with fail
      go_ret
      exact ⟨_, rfl, HF.out⟩
end Go.Proofs.YtfddlhcdlgdofaaGreatDoor

namespace Go.Proofs.YtfddlhcdlgdofaaGreatDoor
open Go.RowKit Go.Shelf

theorem Only.block' {g : Nat} {w w' : World} (h : Only g w w') {k : Nat} {o : Obj} (hk : w.heap[k]? = some o) (hne : k ≠ g) : w'.heap[k]? = some o := (h.block k (heap_lt hk) hne).trans hk
set_option maxRecDepth 100000 in
set_option maxHeartbeats 4000000 in
theorem next_u {w : World} {g : Nat} {A : Option Addr} {cap : Nat} {bs : List UInt8} {st : Option Nat} (h : RdS w g A cap bs st) :
    Calls Tryz.prog 105 #[.pointer (some ⟨g, 0, none⟩)] w fun e w' => e = .returned (opV (opS 7 bs st).1) ∧ RdS w' g A cap bs (opS 7 bs st).2 ∧ Only g w w' := by
  have hgl := h.lt
  have hb0 := below_new (w := w) (.cells #[.int .i64 0, .string ⟨#[]⟩, .int .i64 0, .int .i64 0] 168)
  have hat := alloc_at w (.cells #[.int .i64 0, .string ⟨#[]⟩, .int .i64 0, .int .i64 0] 168)
  have HN := Lib.hid (nat_u (h.below hb0))
  have HO0 := Lib.hid (Only.of_below (bt := g) hb0)
  have HAT := Lib.hid hat
  have hle := natS_le bs st
  unfold opS
  obtain ⟨n, s1, hn⟩ : ∃ n s, natS bs st = (n, s) := ⟨_, _, rfl⟩
  rw [hn] at HN hle ⊢
  simp only at HN hle ⊢
  obtain ⟨ks, s2, hs⟩ : ∃ n s, strS 16 bs s1 = (n, s) := ⟨_, _, rfl⟩
  rw [hs]
  simp only
  obtain ⟨x, s3, hx⟩ : ∃ n s, numS bs s2 = (n, s) := ⟨_, _, rfl⟩
  rw [hx]
  simp only
  obtain ⟨y, s4, hy⟩ : ∃ n s, numS bs s3 = (n, s) := ⟨_, _, rfl⟩
  rw [hy]
  simp only
  have HC : IntKind.i64.wrap (min (n : Int) 7) = ((min n 7 : Nat) : Int) := by
    rw [IntWalk.i64_in _ (by omega)]
    omega
  have HH := Lib.hid (And.intro hs (And.intro hx hy))
  generalize ((min n 7 : Nat) : Int) = kd at HC ⊢
  clear h hn hle hb0 hat hs hx hy
  go_enter Tryz.func105, Tryz.ntmps105
  go_wp2_with fail
  refine (HN.out).mono ?_
  rintro e w1 ⟨rfl, h1, h2⟩
  have HS := Lib.hid (str_u (most := 16) (by omega) h1)
  rw [HH.out.1] at HS
  have HO1 := Lib.hid (HO0.out.trans h2)
  have HZ1 := Lib.hid (h2.block' HAT.out (by omega))
  clear h1 h2 HN
  go_wp2_with fail
  refine (HS.out).mono ?_
  rintro e w2 ⟨rfl, h1, h2⟩
  have HX := Lib.hid (num_u h1)
  rw [HH.out.2.1] at HX
  have HO2 := Lib.hid (HO1.out.trans h2)
  have HZ2 := Lib.hid (h2.block' HZ1.out (by omega))
  clear h1 h2 HS
  go_wp2_with fail
  refine (HX.out).mono ?_
  rintro e w3 ⟨rfl, h1, h2⟩
  have HY := Lib.hid (num_u h1)
  rw [HH.out.2.2] at HY
  have HO3 := Lib.hid (HO2.out.trans h2)
  have HZ3 := Lib.hid (h2.block' HZ2.out (by omega))
  clear h1 h2 HX
  go_wp2_with fail
  refine (HY.out).mono ?_
  rintro e w4 ⟨rfl, h1, h2⟩
  have hz := h2.block' HZ3.out (by omega)
  have HR := Lib.hid h1
  have HO4 := Lib.hid (HO3.out.trans h2)
  have c0 := cell_of hz 0
  have c1 := cell_of hz 1
  have c2 := cell_of hz 2
  have c3 := cell_of hz 3
  have f0 := free0 hz 0
  have f1 := free0 hz 1
  have f2 := free0 hz 2
  have f3 := free0 hz 3
  simp at c0 c1 c2 c3
  have hz5 := setCells_at w.heap.size [.int .i64 kd, .string ks, .int .i64 x, .int .i64 y] [] [.int .i64 0, .string ⟨#[]⟩, .int .i64 0, .int .i64 0] w4 rfl hz
  have HZ5 := Lib.hid hz5
  have HT5 := Lib.hid (setCells_touch (S := fun k => k = w.heap.size) (a := w4) w.heap.size (fun _ => rfl) [.int .i64 kd, .string ks, .int .i64 x, .int .i64 y] 0 w4 (Touch.refl _ _))
  have HC0 := Lib.hid c0
  clear h1 h2 hz hz5 HY
  go_wp2_with fail
  change bodyPost _ _ _ _ _ (w4.setCells w.heap.size 0 [.int .i64 kd, .string ks, .int .i64 x, .int .i64 y])
  simp only [List.length_nil, List.nil_append] at HZ5
  generalize w4.setCells w.heap.size 0 [.int .i64 kd, .string ks, .int .i64 x, .int .i64 y] = W5 at *
  clear c0 c1 c2 c3 f0 f1 f2 f3
  have j0 := cell_of HZ5.out 0
  have j1 := cell_of HZ5.out 1
  have j2 := cell_of HZ5.out 2
  have j3 := cell_of HZ5.out 3
  simp at j0 j1 j2 j3
  refine bodyPost_ret (v := opV ⟨kd, ks, x, y⟩) (by simp [results, Tryz.results105, go_sem, j0, j1, j2, j3]) rfl ?_
  exact ⟨rfl, HR.out.apart HC0.out HT5.out, HO4.out.below_after (B := w.heap.size) (HT5.out.below (fun i e => by rw [e]; exact Nat.le_refl _) HO4.out.size) (Nat.le_refl _)⟩
theorem RowN.nums {w : World} {B : Nat} {v : Value} {l : List Nat} {n : Nat} (h : RowN w B 1 v n (numC l)) (hl : l.length = n) : NumsAt w v (l.map numV) := by
  subst hl
  obtain ⟨A, cap, rfl, h1, h2, _, _, h3⟩ := h.1.form
  refine ⟨A, cap, by rw [List.length_map], by rw [List.length_map]; exact h1, h2, fun i x hi => ?_⟩
  obtain ⟨g, rfl, hc⟩ := h3 i (.int .i64 x) (by
    rw [List.getElem?_map] at hi
    unfold numC
    rw [List.getElem?_map]
    cases hx : l[i]? with
    | none => rw [hx] at hi; cases hi
    | some y => rw [hx] at hi; cases hi; rfl)
  exact ⟨_, rfl, World.block_lt_of_cell? w ⟨g, i, none⟩ hc, by rw [add0]; exact hc⟩
theorem wrap_wrapS (n : Nat) (hn : n ≤ 18446744073709551615) : IntKind.i64.wrap (n : Int) = wrapS n := by
  rw [IntKind.wrap_i64]
  unfold wrapS
  split <;> omega
/-- What read leaves. -/
def ReadPost (w : World) (g : Nat) (A : Option Addr) (cap : Nat) (bs : List UInt8) (a : List Nat) (ns : List Nat) (st : Option Nat) (e : Ending) (w' : World) : Prop :=
  ∃ tA tc B, g < B ∧ w.heap.size ≤ B ∧ e = .returned (.agg #[.int .i64 (msgOf a ns []).kd, .int .i64 (msgOf a ns []).fr, .int .i64 (msgOf a ns []).tt, .int .i64 (msgOf a ns []).g, .int .i64 (msgOf a ns []).nd, .int .i64 (msgOf a ns []).tr, .int .i64 (msgOf a ns []).lw, .int .i64 (msgOf a ns []).co, .int .i64 (msgOf a ns []).ti, .slice tA ns.length tc, .slice none 0 0]) ∧ RowN w' B 1 (.slice tA ns.length tc) ns.length (numC ns) ∧ RdS w' g A cap bs st ∧ Only g w w'
set_option maxRecDepth 100000 in
set_option maxHeartbeats 8000000 in
theorem read_u {w : World} {g : Nat} {A : Option Addr} {cap : Nat} {bs : List UInt8} {st : Option Nat} (h : RdS w g A cap bs st) :
    Calls Tryz.prog 59 #[.pointer (some ⟨g, 0, none⟩)] w (ReadPost w g A cap bs (hdS bs 10 st).1 (hdS bs (manyS (hdS bs 10 st).1) (hdS bs 10 st).2).1 (hdS bs (manyS (hdS bs 10 st).1) (hdS bs 10 st).2).2) := by
  have hgl := h.lt
  have hb0 := below_new (w := w) (.cells #[.int .i64 0, .int .i64 0, .int .i64 0, .int .i64 0, .int .i64 0, .int .i64 0, .int .i64 0, .int .i64 0, .int .i64 0, .slice none 0 0, .slice none 0 0] 50)
  have hat := alloc_at w (.cells #[.int .i64 0, .int .i64 0, .int .i64 0, .int .i64 0, .int .i64 0, .int .i64 0, .int .i64 0, .int .i64 0, .int .i64 0, .slice none 0 0, .slice none 0 0] 50)
  have H0 := Lib.hid (small_u (h.below hb0))
  have HO0 := Lib.hid (Only.of_below (bt := g) hb0)
  have HAT := Lib.hid hat
  have h10 : hdS bs 10 st = hdS bs 10 st := rfl
  obtain ⟨a0, s1, e0⟩ : ∃ n s, natS bs st = (n, s) := ⟨_, _, rfl⟩
  obtain ⟨a1, s2, e1⟩ : ∃ n s, natS bs s1 = (n, s) := ⟨_, _, rfl⟩
  obtain ⟨a2, s3, e2⟩ : ∃ n s, natS bs s2 = (n, s) := ⟨_, _, rfl⟩
  obtain ⟨a3, s4, e3⟩ : ∃ n s, natS bs s3 = (n, s) := ⟨_, _, rfl⟩
  obtain ⟨a4, s5, e4⟩ : ∃ n s, natS bs s4 = (n, s) := ⟨_, _, rfl⟩
  obtain ⟨a5, s6, e5⟩ : ∃ n s, natS bs s5 = (n, s) := ⟨_, _, rfl⟩
  obtain ⟨a6, s7, e6⟩ : ∃ n s, natS bs s6 = (n, s) := ⟨_, _, rfl⟩
  obtain ⟨a7, s8, e7⟩ : ∃ n s, natS bs s7 = (n, s) := ⟨_, _, rfl⟩
  obtain ⟨a8, s9, e8⟩ : ∃ n s, natS bs s8 = (n, s) := ⟨_, _, rfl⟩
  obtain ⟨a9, s10, e9⟩ : ∃ n s, natS bs s9 = (n, s) := ⟨_, _, rfl⟩
  have hh : hdS bs 10 st = ([a0, a1, a2, a3, a4, a5, a6, a7, a8, a9], s10) := by
    simp only [hdS, e0, e1, e2, e3, e4, e5, e6, e7, e8, e9]
  rw [hh]
  simp only
  obtain ⟨k, hk⟩ : ∃ k, manyS [a0, a1, a2, a3, a4, a5, a6, a7, a8, a9] = k := ⟨_, rfl⟩
  have hkm : min a9 9 = k := hk
  rw [hk]
  obtain ⟨ns, s11, hns⟩ : ∃ n s, hdS bs k s10 = (n, s) := ⟨_, _, rfl⟩
  have hnl : ns.length = k := by have := hdS_len bs k s10; rw [hns] at this; exact this
  rw [hns]
  have h8 : a8 ≤ 18446744073709551615 := by have := natS_le bs s8; rw [e8] at this; exact this
  have HW : IntKind.i64.wrap (a8 : Int) = wrapS a8 := wrap_wrapS a8 h8
  have E0 := Lib.hid e0
  have E1 := Lib.hid e1
  have E2 := Lib.hid e2
  have E3 := Lib.hid e3
  have E4 := Lib.hid e4
  have E5 := Lib.hid e5
  have E6 := Lib.hid e6
  have E7 := Lib.hid e7
  have E8 := Lib.hid e8
  have E9 := Lib.hid (And.intro e9 (And.intro hkm (And.intro hns hnl)))
  rw [E0.out] at H0
  simp only at H0
  generalize hw8 : wrapS a8 = v8 at HW
  have HV8 := Lib.hid hw8
  clear h hb0 hat h10 hh hk hkm hns hnl h8 e0 e1 e2 e3 e4 e5 e6 e7 e8 e9 hw8
  go_enter Tryz.func59, Tryz.ntmps59
  go_wp2_with fail
  refine (H0.out).mono ?_
  rintro e w1 ⟨rfl, h1, h2⟩
  have H1 := Lib.hid (small_u h1)
  rw [E1.out] at H1
  simp only at H1
  have HO1 := Lib.hid (HO0.out.trans h2)
  have HZ1 := Lib.hid (h2.block' HAT.out (by omega))
  clear h1 h2 H0
  go_wp2_with fail
  refine (H1.out).mono ?_
  rintro e w2 ⟨rfl, h1, h2⟩
  have H2 := Lib.hid (small_u h1)
  rw [E2.out] at H2
  simp only at H2
  have HO2 := Lib.hid (HO1.out.trans h2)
  have HZ2 := Lib.hid (h2.block' HZ1.out (by omega))
  clear h1 h2 H1
  go_wp2_with fail
  refine (H2.out).mono ?_
  rintro e w3 ⟨rfl, h1, h2⟩
  have H3 := Lib.hid (small_u h1)
  rw [E3.out] at H3
  simp only at H3
  have HO3 := Lib.hid (HO2.out.trans h2)
  have HZ3 := Lib.hid (h2.block' HZ2.out (by omega))
  clear h1 h2 H2
  go_wp2_with fail
  refine (H3.out).mono ?_
  rintro e w4 ⟨rfl, h1, h2⟩
  have H4 := Lib.hid (small_u h1)
  rw [E4.out] at H4
  simp only at H4
  have HO4 := Lib.hid (HO3.out.trans h2)
  have HZ4 := Lib.hid (h2.block' HZ3.out (by omega))
  clear h1 h2 H3
  go_wp2_with fail
  refine (H4.out).mono ?_
  rintro e w5 ⟨rfl, h1, h2⟩
  have H5 := Lib.hid (small_u h1)
  rw [E5.out] at H5
  simp only at H5
  have HO5 := Lib.hid (HO4.out.trans h2)
  have HZ5 := Lib.hid (h2.block' HZ4.out (by omega))
  clear h1 h2 H4
  go_wp2_with fail
  refine (H5.out).mono ?_
  rintro e w6 ⟨rfl, h1, h2⟩
  have H6 := Lib.hid (small_u h1)
  rw [E6.out] at H6
  simp only at H6
  have HO6 := Lib.hid (HO5.out.trans h2)
  have HZ6 := Lib.hid (h2.block' HZ5.out (by omega))
  clear h1 h2 H5
  go_wp2_with fail
  refine (H6.out).mono ?_
  rintro e w7 ⟨rfl, h1, h2⟩
  have H7 := Lib.hid (small_u h1)
  rw [E7.out] at H7
  simp only at H7
  have HO7 := Lib.hid (HO6.out.trans h2)
  have HZ7 := Lib.hid (h2.block' HZ6.out (by omega))
  clear h1 h2 H6
  go_wp2_with fail
  refine (H7.out).mono ?_
  rintro e w8 ⟨rfl, h1, h2⟩
  have H8 := Lib.hid (nat_u h1)
  rw [E8.out] at H8
  simp only at H8
  have HO8 := Lib.hid (HO7.out.trans h2)
  have HZ8 := Lib.hid (h2.block' HZ7.out (by omega))
  clear h1 h2 H7
  go_wp2_with fail
  refine (H8.out).mono ?_
  rintro e w9 ⟨rfl, h1, h2⟩
  have H9 := Lib.hid (told_u h1)
  rw [E9.out.1] at H9
  simp only at H9
  rw [E9.out.2.1, E9.out.2.2.1] at H9
  simp only at H9
  have HO9 := Lib.hid (HO8.out.trans h2)
  have HZ9 := Lib.hid (h2.block' HZ8.out (by omega))
  clear h1 h2 H8
  go_wp2_with fail
  refine (H9.out).mono ?_
  rintro e w4 ⟨v, rfl, hrow, h1, h2⟩
  have hz := h2.block' HZ9.out (by omega)
  have HR := Lib.hid h1
  have HRW := Lib.hid hrow
  have HO10 := Lib.hid (HO9.out.trans h2)
  have hsz9 : w.heap.size < w9.heap.size := heap_lt HZ9.out
  obtain ⟨Al, cl, rfl, _⟩ := hrow.1.form
  have c0 := cell_of hz 0
  have c1 := cell_of hz 1
  have c2 := cell_of hz 2
  have c3 := cell_of hz 3
  have c4 := cell_of hz 4
  have c5 := cell_of hz 5
  have c6 := cell_of hz 6
  have c7 := cell_of hz 7
  have c8 := cell_of hz 8
  have c9 := cell_of hz 9
  have c10 := cell_of hz 10
  have f0 := free0 hz 0
  have f1 := free0 hz 1
  have f2 := free0 hz 2
  have f3 := free0 hz 3
  have f4 := free0 hz 4
  have f5 := free0 hz 5
  have f6 := free0 hz 6
  have f7 := free0 hz 7
  have f8 := free0 hz 8
  have f9 := free0 hz 9
  have f10 := free0 hz 10
  simp at c0 c1 c2 c3 c4 c5 c6 c7 c8 c9 c10
  have hz5 := setCells_at w.heap.size [.int .i64 (cutS a0), .int .i64 (cutS a1), .int .i64 (cutS a2), .int .i64 (cutS a3), .int .i64 (cutS a4), .int .i64 (cutS a5), .int .i64 (cutS a6), .int .i64 (cutS a7), .int .i64 v8, .slice Al k cl, .slice none 0 0] [] [.int .i64 0, .int .i64 0, .int .i64 0, .int .i64 0, .int .i64 0, .int .i64 0, .int .i64 0, .int .i64 0, .int .i64 0, .slice none 0 0, .slice none 0 0] w4 rfl hz
  have HZ5 := Lib.hid hz5
  have HT5 := Lib.hid (setCells_touch (S := fun k => k = w.heap.size) (a := w4) w.heap.size (fun _ => rfl) [.int .i64 (cutS a0), .int .i64 (cutS a1), .int .i64 (cutS a2), .int .i64 (cutS a3), .int .i64 (cutS a4), .int .i64 (cutS a5), .int .i64 (cutS a6), .int .i64 (cutS a7), .int .i64 v8, .slice Al k cl, .slice none 0 0] 0 w4 (Touch.refl _ _))
  have HC0 := Lib.hid c0
  clear h1 h2 hz hz5 H9 hrow
  go_wp2_with fail
  change bodyPost _ _ _ _ _ (w4.setCells w.heap.size 0 [.int .i64 (cutS a0), .int .i64 (cutS a1), .int .i64 (cutS a2), .int .i64 (cutS a3), .int .i64 (cutS a4), .int .i64 (cutS a5), .int .i64 (cutS a6), .int .i64 (cutS a7), .int .i64 v8, .slice Al k cl, .slice none 0 0])
  simp only [List.length_nil, List.nil_append] at HZ5
  generalize w4.setCells w.heap.size 0 [.int .i64 (cutS a0), .int .i64 (cutS a1), .int .i64 (cutS a2), .int .i64 (cutS a3), .int .i64 (cutS a4), .int .i64 (cutS a5), .int .i64 (cutS a6), .int .i64 (cutS a7), .int .i64 v8, .slice Al k cl, .slice none 0 0] = W5 at *
  clear c0 c1 c2 c3 c4 c5 c6 c7 c8 c9 c10 f0 f1 f2 f3 f4 f5 f6 f7 f8 f9 f10
  have j0 := cell_of HZ5.out 0
  have j1 := cell_of HZ5.out 1
  have j2 := cell_of HZ5.out 2
  have j3 := cell_of HZ5.out 3
  have j4 := cell_of HZ5.out 4
  have j5 := cell_of HZ5.out 5
  have j6 := cell_of HZ5.out 6
  have j7 := cell_of HZ5.out 7
  have j8 := cell_of HZ5.out 8
  have j9 := cell_of HZ5.out 9
  have j10 := cell_of HZ5.out 10
  simp at j0 j1 j2 j3 j4 j5 j6 j7 j8 j9 j10
  refine bodyPost_ret (v := .agg #[.int .i64 (cutS a0), .int .i64 (cutS a1), .int .i64 (cutS a2), .int .i64 (cutS a3), .int .i64 (cutS a4), .int .i64 (cutS a5), .int .i64 (cutS a6), .int .i64 (cutS a7), .int .i64 v8, .slice Al k cl, .slice none 0 0]) (by simp [results, Tryz.results59, go_sem, j0, j1, j2, j3, j4, j5, j6, j7, j8, j9, j10]) rfl ?_
  refine ⟨Al, cl, w9.heap.size, by omega, by omega, ?_, ?_, HR.out.apart HC0.out HT5.out, HO10.out.below_after (B := w.heap.size) (HT5.out.below (fun i e => by rw [e]; exact Nat.le_refl _) HO10.out.size) (Nat.le_refl _)⟩
  · simp only [msgOf, HV8.out, E9.out.2.2.2]
  · have hr := HRW.out
    rw [E9.out.2.2.2]
    exact ⟨hr.1.touch HT5.out (fun b e hb => by have := (hr.2.1 b e).1; omega), hr.2⟩
end Go.Proofs.YtfddlhcdlgdofaaGreatDoor
