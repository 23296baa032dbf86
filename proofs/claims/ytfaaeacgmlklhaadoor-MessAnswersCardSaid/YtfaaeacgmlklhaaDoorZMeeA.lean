/- mess.small, told; the reader beside a row of one's own. -/
import Derived.Test.YtfaaeacgmlklhaaDoorZMecC
set_option linter.unusedSimpArgs false
set_option linter.unusedVariables false
set_option linter.unnecessarySimpa false
namespace Go.Proofs.YtfaaeacgmlklhaaDoor
open Go.RowKit Go.Shelf

/-- Cells set one behind the other: what the block holds then. -/
theorem setCells_block (b : Nat) : ∀ (vs : List Value) (o : Nat) (w : World) (k : Nat), k ≠ b → (w.setCells b o vs).heap[k]? = w.heap[k]?
  | [], _, _, _, _ => rfl
  | v :: r, o, w, k, h => (setCells_block b r (o + 1) (w.setCell ⟨b, o, none⟩ v) k h).trans (Below.heap_setCell _ _ _ _ h)
theorem setCells_at (b : Nat) {T : TypeId} : ∀ (vs pre rest : List Value) (w : World), rest.length = vs.length → w.heap[b]? = some (.cells (pre ++ rest).toArray T (0, 0)) → (w.setCells b pre.length vs).heap[b]? = some (.cells (pre ++ vs).toArray T (0, 0))
  | [], pre, rest, w, hl, h => by
    obtain rfl := List.length_eq_zero_iff.1 hl
    exact h
  | v :: r, pre, [], w, hl, h => by simp at hl
  | v :: r, pre, y :: rest, w, hl, h => by
    have h1 := set_at h pre.length v
    have e : (pre ++ y :: rest).toArray.setIfInBounds pre.length v = ((pre ++ [v]) ++ rest).toArray := by simp
    rw [e] at h1
    have := setCells_at b r (pre ++ [v]) rest _ (by simpa using hl) h1
    simp only [List.length_append, List.length_singleton, List.append_assoc, List.singleton_append] at this
    exact this
theorem setCells_touch {S : Nat → Prop} {a : World} (b : Nat) (hb : b < a.heap.size → S b) : ∀ (vs : List Value) (o : Nat) (w : World), Touch S a w → Touch S a (w.setCells b o vs)
  | [], _, _, h => h
  | v :: r, o, w, h => setCells_touch b hb r (o + 1) _ (h.setCell ⟨b, o, none⟩ hb v)
theorem Only.touch {g : Nat} {w w' : World} (h : Only g w w') : Touch (fun k => k = g) w w' := ⟨h.os, h.tape, h.output, h.size, fun k hk hne => h.block k hk hne⟩
theorem Only.of_touch {g : Nat} {w w' : World} (h : Touch (fun k => k = g) w w') : Only g w w' := ⟨h.os, h.tape, h.output, h.size, fun k hk hne => h.block k hk hne⟩
theorem Glob.only {g : Nat} {w w' : World} (h : Glob w) (ho : Only g w w') (hg : g ≠ 1) : Glob w' := (World.cell?_of_block (a := ⟨1, 0, none⟩) (ho.block 1 h.lt (Ne.symm hg))).trans h
/-- A block that begins with a number of 64 bits is none of an error's. -/
theorem ErrIs.apart {w w' : World} {b : Nat} {z : Int} (hc : w.cell? ⟨b, 0, none⟩ = some (.int .i64 z)) (ht : Touch (fun k => k = b) w w') : ∀ (c : List Lk) (v : Value), ErrIs w c v → ErrIs w' c v := by
  have key : ∀ (cs : Array Value) (x : Value) (k : Nat) (t : TypeId), w.heap[k]? = some (.cells cs t (0, 0)) → cs[0]? = some x → (∃ t u, x = .iface t u) → w'.heap[k]? = some (.cells cs t (0, 0)) := fun cs x k t h h0 hx => by
    have hk : k ≠ b := fun e => by
      subst e
      rw [cell_of h, h0] at hc
      obtain ⟨t, u, rfl⟩ := hx
      cases hc
    rw [ht.block k (heap_lt h) hk]
    exact h
  intro c
  induction c with
  | nil => intro v h; exact h
  | cons k r ih =>
    intro v h
    cases k with
    | num e => exact h
    | plc p =>
      obtain ⟨h1, b', x, e, hb, hx⟩ := h
      exact ⟨h1, b', x, e, key _ x b' _ hb rfl (by cases r with | nil => exact absurd rfl h1 | cons k r => exact hx.form1), ih x hx⟩
    | nam s =>
      obtain ⟨h1, b', x, e, hb, hx⟩ := h
      exact ⟨h1, b', x, e, key _ x b' _ hb rfl (by cases r with | nil => exact absurd rfl h1 | cons k r => exact hx.form1), ih x hx⟩
    | bnd l g =>
      obtain ⟨h1, b', x, e, hb, hx⟩ := h
      exact ⟨h1, b', x, e, key _ x b' _ hb rfl (by cases r with | nil => exact absurd rfl h1 | cons k r => exact hx.form1), ih x hx⟩
theorem Rd.apart {w w' : World} {g : Nat} {A : Option Addr} {cap : Nat} {bs : List UInt8} {pos : Nat} {ev : Value} {c : List Lk} {b : Nat} {z : Int} (h : Rd w g A cap bs pos ev c) (hc : w.cell? ⟨b, 0, none⟩ = some (.int .i64 z)) (ht : Touch (fun k => k = b) w w') : Rd w' g A cap bs pos ev c := by
  have hgb : g ≠ b := fun e => by
    subst e
    rw [cell_of h.blk] at hc
    cases hc
  refine ⟨(ht.block g (heap_lt h.blk) hgb).trans h.blk, h.err.apart hc ht, h.le, h.max, h.pos_le, fun i x hi => ?_⟩
  obtain ⟨gb, q1, q2, q3, q4⟩ := h.byt i x hi
  have h0 : 0 < bs.length := Nat.lt_of_le_of_lt (Nat.zero_le _) (List.getElem?_eq_some_iff.1 hi).1
  obtain ⟨gb', p1, _, _, p4⟩ := h.byt 0 bs[0] (List.getElem?_eq_getElem h0)
  obtain rfl : gb' = gb := by
    have := p1.symm.trans q1
    injection this with e
    injection e
  have hne : gb' ≠ b := fun e => by
    subst e
    rw [p4] at hc
    cases hc
  exact ⟨gb', q1, q2, Nat.lt_of_lt_of_le q3 ht.size, (World.cell?_of_block (a := ⟨gb', i, none⟩) (ht.block gb' q3 hne)).trans q4⟩
theorem RdS.apart {w w' : World} {g : Nat} {A : Option Addr} {cap : Nat} {bs : List UInt8} {st : Option Nat} {b : Nat} {z : Int} (h : RdS w g A cap bs st) (hc : w.cell? ⟨b, 0, none⟩ = some (.int .i64 z)) (ht : Touch (fun k => k = b) w w') : RdS w' g A cap bs st := by
  cases st with
  | none =>
    obtain ⟨p, e, t, u, h1, h2, h3, h⟩ := h
    exact ⟨p, e, t, u, h1, h2, h3, h.apart hc ht⟩
  | some p => exact Rd.apart h hc ht
/-- A row of one's own that is nil, or begins with a number. -/
def RowN (w : World) (B z : Nat) (v : Value) (n : Nat) (l : List Value) : Prop := RowIs w z v n l ∧ (∀ b, v.ownBlock = some b → B ≤ b ∧ ∃ x, l[0]? = some (.int .i64 x)) ∧ (l = [] → v = .slice none 0 0)
theorem RowN.cell {w : World} {B z : Nat} {v : Value} {n : Nat} {l : List Value} (h : RowN w B z v n l) {b : Nat} (hb : v.ownBlock = some b) : ∃ x, w.cell? ⟨b, 0, none⟩ = some (.int .i64 x) := by
  obtain ⟨x, hx⟩ := (h.2.1 b hb).2
  rcases h.1 with ⟨rfl, _⟩ | ⟨g, cap, rfl, _, _, hr⟩
  · cases hb
  · cases hb
    exact ⟨x, hr.holds 0 _ hx⟩
/-- Behind an append onto such a row the reader is as it was. -/
theorem RdS.grown {w w' : World} {g : Nat} {A : Option Addr} {cap : Nat} {bs : List UInt8} {st : Option Nat} {B z : Nat} {v : Value} {n : Nat} {l : List Value} (h : RdS w g A cap bs st) (hr : RowN w B z v n l) (hg : w.grownBy w' v.ownBlock) : RdS w' g A cap bs st := by
  have ht := (Touch.refl (fun k => v.ownBlock = some k) w).grown hg (fun k e _ => e)
  cases hv : v.ownBlock with
  | none =>
    refine h.below ⟨ht.os, ht.tape, ht.output, ht.size, fun k hk => ht.block k hk (fun e => ?_)⟩
    rw [hv] at e
    cases e
  | some b =>
    obtain ⟨x, hx⟩ := hr.cell hv
    refine h.apart hx (ht.mono fun k _ e => ?_)
    rw [hv] at e
    exact (Option.some.inj e).symm
theorem RowN.grown {w w' : World} {B z : Nat} {v v' : Value} {n n' : Nat} {l l' : List Value} (h : RowN w B z v n l) (hb : B ≤ w.heap.size) (hr : RowIs w' z v' n' l') (hv : v'.ownBlock = v.ownBlock ∨ v'.ownBlock = some w.heap.size) (h0 : ∃ x, l'[0]? = some (.int .i64 x)) : RowN w' B z v' n' l' := by
  refine ⟨hr, fun b e => ⟨?_, h0⟩, fun e => ?_⟩
  · rcases hv with e2 | e2
    · exact (h.2.1 b (e2 ▸ e)).1
    · rw [e2] at e
      have := Option.some.inj e
      omega
  · obtain ⟨x, hx⟩ := h0
    rw [e] at hx
    cases hx
set_option maxRecDepth 100000 in
set_option maxHeartbeats 1000000 in
theorem small_u {w : World} {g : Nat} {A : Option Addr} {cap : Nat} {bs : List UInt8} {st : Option Nat} (h : RdS w g A cap bs st) :
    Calls Tryd.prog 39 #[.pointer (some ⟨g, 0, none⟩)] w fun e w' => e = .returned (.int .i64 (cutS (natS bs st).1)) ∧ RdS w' g A cap bs (natS bs st).2 ∧ Only g w w' := by
  have HN := Lib.hid (nat_u h)
  have hle := natS_le bs st
  obtain ⟨n, s, hn⟩ : ∃ n s, natS bs st = (n, s) := ⟨_, _, rfl⟩
  rw [hn] at HN hle ⊢
  simp only at HN hle ⊢
  have HC : IntKind.i64.wrap (min (n : Int) 1048578) = cutS n := by
    unfold cutS
    rw [IntWalk.i64_in _ (by omega)]
    omega
  clear h hn hle
  go_enter Tryd.func39, Tryd.ntmps39
  go_wp2_with fail
  refine (HN.out).mono ?_
  rintro e w1 ⟨rfl, h1, h2⟩
  have HF := Lib.hid (And.intro h1 h2)
  clear h1 h2
  go_wp2_with fail
  go_ret
  exact ⟨rfl, HF.out⟩
def numC (l : List Nat) : List Value := l.map fun n => .int .i64 (numV n)
theorem infoI : (Tryd.prog.info? 2).map (fun i => (i.zero, i.size, i.bytes)) = some (some (.int .i64 0), 1, 8) := by kernel_rfl
theorem src_num {w : World} {x : Value} {t : TypeId} {b : Nat} (h : w.heap[b]? = some (.cells #[x] t (0, 0))) (hx : x.oneCell' = true) : Src Tryd.prog 1 23 (.slice (some ⟨b, 0, none⟩) 1 1) 1 [x] w :=
  Src.ofSlice _ Tryd.underlying23 ⟨b, 0, none⟩ 1 1 [x] rfl (fun j u hu => by
    rw [add0, cell_of h]
    simpa using hu) (by simpa using hx)
theorem numC_first {l : List Nat} (h : l ≠ []) : ∃ x, (numC l)[0]? = some (.int .i64 x) := by
  cases l with
  | nil => exact absurd rfl h
  | cons a r => exact ⟨_, rfl⟩
set_option maxRecDepth 100000 in
set_option maxHeartbeats 2000000 in
theorem told_u {w : World} {g : Nat} {A : Option Addr} {cap : Nat} {bs : List UInt8} {st : Option Nat} (h : RdS w g A cap bs st) :
    Calls Tryd.prog 41 #[.pointer (some ⟨g, 0, none⟩)] w fun e w' => ∃ v, e = .returned v ∧ RowN w' w.heap.size 1 v (min (natS bs st).1 9) (numC (hdS bs (min (natS bs st).1 9) (natS bs st).2).1) ∧ RdS w' g A cap bs (hdS bs (min (natS bs st).1 9) (natS bs st).2).2 ∧ Only g w w' := by
  have HN := Lib.hid (nat_u h)
  have hgl := h.lt
  obtain ⟨n, s1, hn⟩ : ∃ n s, natS bs st = (n, s) := ⟨_, _, rfl⟩
  rw [hn] at HN ⊢
  simp only at HN ⊢
  obtain ⟨k, hk⟩ : ∃ k, min n 9 = k := ⟨_, rfl⟩
  have hkI : min (n : Int) 9 = (k : Int) := by omega
  have hk9 : k ≤ 9 := by omega
  rw [hk]
  clear h hn hk
  go_enter Tryd.func41, Tryd.ntmps41
  go_wp2_with fail
  refine (HN.out).mono ?_
  rintro e w1 ⟨rfl, h1, h2⟩
  have HR := Lib.hid h1
  have HO := Lib.hid h2
  clear h1 h2 HN
  go_wp2_with fail
  go_loopw [3, 7] (fun bv iv wr => ∃ i : Nat, i ≤ k ∧ iv = .int .u64 i ∧ RowN wr w.heap.size 1 bv i (numC (hdS bs i s1).1) ∧ RdS wr g A cap bs (hdS bs i s1).2 ∧ Only g w wr) (fun _ iv _ => k - (intOf iv).toNat)
  case atStart => exact ⟨0, Nat.zero_le _, rfl, ⟨RowIs.nil _ _, (fun b e => by cases e), fun _ => rfl⟩, HR.out, HO.out⟩
  case round =>
    obtain ⟨i, hi, rfl, hrow, hR, hO⟩ := hrel
    by_cases hlt : i < k
    · have HNU := Lib.hid (num_u hR)
      have hsn := hdS_snoc bs i s1
      have hlen := hdS_len bs i s1
      obtain ⟨l, s2, hl⟩ : ∃ l s2, hdS bs i s1 = (l, s2) := ⟨_, _, rfl⟩
      rw [hl] at hrow HNU hsn hlen
      unfold numS at HNU
      obtain ⟨x, s3, hx⟩ : ∃ x s3, natS bs s2 = (x, s3) := ⟨_, _, rfl⟩
      simp only at hrow HNU hsn hlen
      rw [hx] at HNU hsn
      simp only at HNU hsn
      have HSN := Lib.hid hsn
      have HROW := Lib.hid hrow
      have HOW := Lib.hid hO
      have HLT := Lib.hid hlt
      have HLEN := Lib.hid hlen
      have hiI : (i : Int) < (k : Int) := by omega
      have hii : (i : Int) ≤ 9 := by omega
      obtain ⟨Al, cl, rfl, _⟩ := hrow.1.form
      clear hrow hsn hl hx hO hlt hR hlen
      go_wp2_with fail
      refine (HNU.out).mono ?_
      rintro e w3 ⟨rfl, hR3, hO3⟩
      have hb4 := below_new (w := w3) (.cells #[.int .i64 (numV x)] 2)
      have hat := alloc_at w3 (.cells #[.int .i64 (numV x)] 2)
      have HO3 := Lib.hid (HOW.out.trans (hO3.trans (Only.of_below hb4)))
      have HR3 := Lib.hid (hR3.below hb4)
      have HRW : Hid (RowN (w3.alloc (.cells #[.int .i64 (numV x)] 2)) w.heap.size 1 (.slice Al i cl) i (numC l)) := Lib.hid ⟨(HROW.out.1.touch hO3.touch (fun b e hbg => by have := (HROW.out.2.1 b e).1; omega)).below hb4, HROW.out.2⟩
      have HSRC := Lib.hid (src_num hat rfl)
      clear hR3 hO3 hb4 hat
      go_wp2_with (at_builtin; refine wpList_append_row _ _ Tryd.underlying23 infoI rfl (by decide) (by decide) _ rfl _ _ 23 rfl i 1 (numC l) [.int .i64 (numV x)] _ _ rfl rfl HRW.out.1 HSRC.out ?_ ?_)
      all_goals first | omega | skip
      intro v' w' hr5 hg5 hb5
      have HNEW : Hid (RowN w' w.heap.size 1 v' (i + 1) (numC (l ++ [x])) ∧ RdS w' g A cap bs s3 ∧ Only g w w') := Lib.hid (by
        have e : numC l ++ [.int .i64 (numV x)] = numC (l ++ [x]) := by simp [numC]
        rw [e] at hr5
        refine ⟨HRW.out.grown HO3.out.size hr5 (by rw [asz]; exact hb5) (numC_first (by simp)), HR3.out.grown HRW.out hg5, ?_⟩
        have ht := (Touch.refl (fun k => (Value.slice Al i cl).ownBlock = some k) (w3.alloc (.cells #[.int .i64 (numV x)] 2))).grown hg5 (fun k e _ => e)
        exact HO3.out.below_after (B := w.heap.size) (ht.below (fun b e => (HRW.out.2.1 b e).1) HO3.out.size) (Nat.le_refl _))
      clear hr5 hg5 hb5
      go_wp2_with fail
      go_roundw
      case rel => exact ⟨i + 1, HLT.out, by go_num, by rw [HSN.out]; exact HNEW.out.1, by rw [HSN.out]; exact HNEW.out.2.1, HNEW.out.2.2⟩
      case measure => have := HLT.out; simp [intOf]; omega
    · obtain rfl : i = k := by omega
      have HF := Lib.hid (And.intro hrow (And.intro hR hO))
      obtain ⟨Al, cl, rfl, _⟩ := hrow.1.form
      clear hrow hR hO
      go_wp2_with fail
      go_ret
      exact ⟨_, rfl, HF.out⟩
end Go.Proofs.YtfaaeacgmlklhaaDoor
