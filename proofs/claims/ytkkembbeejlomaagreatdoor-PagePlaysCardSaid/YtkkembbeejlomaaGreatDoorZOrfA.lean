/- The document's own reader of bytes: nat. The document's own reader of bytes: Of, Nat, Num, Str, End. The document's own reader of bytes: Num, Str, End. -/
import Derived.Test.YtkkembbeejlomaaGreatDoorZOcpA
import Derived.Test.YtkkembbeejlomaaGreatDoorZOcpE
import Derived.BigQuiet
set_option linter.unusedSimpArgs false
set_option linter.unusedVariables false
set_option linter.unnecessarySimpa false
namespace Go.Proofs.YtkkembbeejlomaaGreatDoor
open Go.RowKit Go.Shelf Go.Lib

/-- The document's own reader at block g, over bytes wherever they lie. -/
structure RfAt (w : World) (g : Nat) (A : Option Addr) (cap : Nat) (bs : List UInt8) (p : Nat) (e bad : Int) : Prop where
  blk : w.heap[g]? = some (.cells #[.slice A bs.length cap, .int .i64 (p : Int), .int .i64 e, .int .i64 bad] 78 (0, 0))
  le : p ≤ bs.length
  room : bs.length ≤ cap
  max : cap ≤ maxLen
  byt : ∀ i b, bs[i]? = some b → ∃ a : Addr, A = some a ∧ a.block < w.heap.size ∧ a.block ≠ g ∧ w.cell? (a.add i) = some (.int .u8 (b.toNat : Int))
theorem natP_cons (b : UInt8) (r : List UInt8) : natP (b :: r) = if 8 < b.toNat then none else if r.length < b.toNat then none else if 0 < b.toNat ∧ r[0]? = some 0 then none else some (foldB (r.take b.toNat), b.toNat + 1) := rfl
theorem fold_lt8 {l : List UInt8} {k : Nat} (hk : k < 8) : foldB (l.take k) < 72057594037927936 := by
  have h1 := foldB_lt (l.take k)
  have h2 : (l.take k).length ≤ 7 := by rw [List.length_take]; omega
  exact Nat.lt_of_lt_of_le h1 (Nat.le_trans (Nat.pow_le_pow_right (by omega) h2) (by decide))
theorem fold_next {l : List UInt8} {k : Nat} {x : UInt8} (hx : l[k]? = some x) : foldB (l.take (k + 1)) = foldB (l.take k) * 256 + x.toNat := by
  have hlt : k < l.length := (List.getElem?_eq_some_iff.1 hx).1
  rw [List.take_succ_eq_append_getElem hlt, foldB_snoc, (List.getElem?_eq_some_iff.1 hx).2]
set_option maxRecDepth 100000 in
set_option maxHeartbeats 4000000 in
theorem rf_nat {w : World} {g : Nat} {A : Option Addr} {cap : Nat} {bs : List UInt8} {p : Nat} {e bad : Int} (h : RfAt w g A cap bs p e bad) :
    Calls Tryz.prog 61 #[.pointer (some ⟨g, 0, none⟩), .int .i64 (p : Int)] w fun x w' => x = .returned (.tuple #[.int .u64 ((((natP (bs.drop p)).getD (0, 0)).1 : Nat) : Int), .int .i64 ((((natP (bs.drop p)).getD (0, 0)).2 : Nat) : Int)]) ∧ w = w' := by
  have kb : w.cell? ⟨g, 0, none⟩ = some (.slice A bs.length cap) := cell_of h.blk 0
  have hle := h.le
  have hc := h.room
  have hm := h.max
  unfold maxLen at hm
  have hbI : (bs.length : Int) ≤ 9223372036854775807 := by omega
  by_cases hp : p = bs.length
  · have e1 : natP (bs.drop p) = none := by subst hp; rw [List.drop_length]; rfl
    rw [e1]
    have q1 : (bs.length : Int) ≤ (p : Int) := by omega
    clear h hp
    go_enter Tryz.func61, Tryz.ntmps61
    go_wp2_with fail
    refine bodyPost_ret (v := .tuple #[.int .u64 0, .int .i64 0]) (by simp [results, Tryz.results61, go_sem]) rfl ?_
    exact ⟨rfl, rfl⟩
  · obtain ⟨b, hb⟩ : ∃ b, bs[p]? = some b := ⟨_, List.getElem?_eq_getElem (by omega)⟩
    obtain ⟨a, rfl, hal, hag, kc⟩ := h.byt p b hb
    have hd : bs.drop p = b :: bs.drop (p + 1) := by rw [List.drop_eq_getElem_cons (by omega), (List.getElem?_eq_some_iff.1 hb).2]
    have hrl : (bs.drop (p + 1)).length = bs.length - (p + 1) := List.length_drop
    have hnat := natP_cons b (bs.drop (p + 1))
    rw [← hd, hrl] at hnat
    have hb255 := b.toNat_lt
    have q0 : (p : Int) < (bs.length : Int) := by omega
    by_cases h8 : 8 < b.toNat
    · rw [if_pos h8] at hnat
      rw [hnat]
      have q1 : (8 : Int) < (b.toNat : Int) := by omega
      clear h hp hb hd hrl hnat
      go_enter Tryz.func61, Tryz.ntmps61
      go_wp2_with fail
      refine bodyPost_ret (v := .tuple #[.int .u64 0, .int .i64 0]) (by simp [results, Tryz.results61, go_sem]) rfl ?_
      exact ⟨rfl, rfl⟩
    · rw [if_neg h8] at hnat
      have q1 : ¬ (8 : Int) < (b.toNat : Int) := by omega
      have w1 : IntKind.i64.wrap ((bs.length : Int) - (p : Int)) = (bs.length : Int) - (p : Int) := IntWalk.i64_in _ (by omega)
      have w2 : IntKind.i64.wrap ((bs.length : Int) - (p : Int) - 1) = (bs.length : Int) - (p : Int) - 1 := IntWalk.i64_in _ (by omega)
      by_cases hk : bs.length - (p + 1) < b.toNat
      · rw [if_pos hk] at hnat
        rw [hnat]
        have q2 : (bs.length : Int) - (p : Int) - 1 < (b.toNat : Int) := by omega
        clear h hp hb hd hrl hnat
        go_enter Tryz.func61, Tryz.ntmps61
        go_wp2_with fail
        refine bodyPost_ret (v := .tuple #[.int .u64 0, .int .i64 0]) (by simp [results, Tryz.results61, go_sem]) rfl ?_
        exact ⟨rfl, rfl⟩
      · rw [if_neg hk] at hnat
        have q2 : ¬ (bs.length : Int) - (p : Int) - 1 < (b.toNat : Int) := by omega
        obtain ⟨k, hkb⟩ : ∃ k, b.toNat = k := ⟨_, rfl⟩
        rw [hkb] at hnat q1 q2 kc h8 hk
        obtain ⟨l, hl⟩ : ∃ l, bs.drop (p + 1) = l := ⟨_, rfl⟩
        rw [hl] at hnat hrl
        have HCL : Hid (∀ i x, l[i]? = some x → w.cell? (a.add (p + 1 + i)) = some (.int .u8 (x.toNat : Int))) := Lib.hid (fun i x hx => by
          rw [← hl, List.getElem?_drop] at hx
          obtain ⟨a', e, _, _, hc⟩ := h.byt _ x hx
          cases e
          exact hc)
        have HLL : Hid (k ≤ l.length) := Lib.hid (by omega)
        have HNAT := Lib.hid hnat
        have hpk : p + 1 + k ≤ bs.length := by omega
        have hpkI : (p : Int) + 1 + (k : Int) ≤ (bs.length : Int) := by omega
        have hk8 : (k : Int) ≤ 8 := by omega
        clear h hp hb hd hrl hnat hl hkb hb255 hk hpk
        go_enter Tryz.func61, Tryz.ntmps61
        go_wp2_with fail
        go_loop [7, 8] (fun m i => ∃ j : Nat, j ≤ k ∧ i = .int .i64 ((j : Int) + 1) ∧ m = .int .u64 ((foldB (l.take j) : Nat) : Int)) (fun _ i => k + 1 - (RowKit.intOf i).toNat)
        case atStart => exact ⟨0, by omega, rfl, rfl⟩
        case round =>
          obtain ⟨j, hj, rfl, rfl⟩ := hrel
          by_cases hlt : j < k
          · obtain ⟨x, hx⟩ : ∃ x, l[j]? = some x := ⟨_, List.getElem?_eq_getElem (by have := HLL.out; omega)⟩
            have kx := HCL.out j x hx
            have hf := fold_lt8 (l := l) (k := j) (by omega)
            have HN := Lib.hid (fold_next hx)
            have hx255 := x.toNat_lt
            obtain ⟨N, hN⟩ : ∃ N, foldB (l.take j) = N := ⟨_, rfl⟩
            rw [hN] at hf HN ⊢
            obtain ⟨X, hX⟩ : ∃ X, x.toNat = X := ⟨_, rfl⟩
            rw [hX] at kx HN hx255
            have u1 : IntKind.u64.wrap ((N : Int) * 256) = (N : Int) * 256 := by rw [IntKind.wrap_u64]; omega
            have u2 : IntKind.u64.wrap (X : Int) = (X : Int) := by rw [IntKind.wrap_u64]; omega
            have u3 : IntKind.u64.wrap ((N : Int) * 256 + (X : Int)) = (N : Int) * 256 + (X : Int) := by rw [IntKind.wrap_u64]; omega
            have r0 : (j : Int) + 1 ≤ (k : Int) := by omega
            have r1 : (p : Int) + ((j : Int) + 1) < (bs.length : Int) := by omega
            have r2 : IntKind.i64.wrap ((p : Int) + ((j : Int) + 1)) = (p : Int) + ((j : Int) + 1) := IntWalk.i64_in _ (by omega)
            have r3 : ((p : Int) + ((j : Int) + 1)).toNat = p + 1 + j := by omega
            have HLT := Lib.hid hlt
            clear hx hN hX hlt
            go_wp2
            go_round
            case rel => exact ⟨j + 1, HLT.out, by go_num, by rw [HN.out]; simp⟩
            case measure => have := HLT.out; simp [RowKit.intOf]; omega
          · obtain rfl : j = k := by omega
            have r0 : ¬ (j : Int) + 1 ≤ (j : Int) := by omega
            by_cases hj0 : j = 0
            · subst hj0
              have hn := HNAT.out
              rw [if_neg (by omega)] at hn
              have HN := Lib.hid hn
              have s0 : ¬ (0 : Int) < ((0 : Nat) : Int) := by omega
              clear hn
              go_wp2_with fail
              refine bodyPost_ret (v := .tuple #[.int .u64 ((foldB (l.take 0) : Nat) : Int), .int .i64 1]) (by simp [results, Tryz.results61, go_sem]) rfl ?_
              rw [HN.out]
              exact ⟨rfl, rfl⟩
            · obtain ⟨x, hx⟩ : ∃ x, l[0]? = some x := ⟨_, List.getElem?_eq_getElem (by have := HLL.out; omega)⟩
              have kx := HCL.out 0 x hx
              have hn := HNAT.out
              rw [hx] at hn
              have s0 : (0 : Int) < (j : Int) := by omega
              have s1 : (p : Int) + 1 < (bs.length : Int) := by omega
              have s2 : IntKind.i64.wrap ((p : Int) + 1) = (p : Int) + 1 := IntWalk.i64_in _ (by omega)
              have s3 : ((p : Int) + 1).toNat = p + 1 := by omega
              have s4 : IntKind.i64.wrap ((j : Int) + 1) = (j : Int) + 1 := IntWalk.i64_in _ (by omega)
              obtain ⟨N, hN⟩ : ∃ N, foldB (l.take j) = N := ⟨_, rfl⟩
              rw [hN] at hn
              by_cases hx0 : x = 0
              · subst hx0
                rw [if_pos ⟨by omega, rfl⟩] at hn
                have HN := Lib.hid hn
                have kx0 : w.cell? (a.add (p + 1)) = some (.int .u8 0) := kx
                rw [show a.add (p + 1) = ⟨a.block, a.off + (p + 1), none⟩ by unfold Addr.add; rw [if_neg (by omega)]] at kx0
                clear hn hx kx hN hj0
                go_wp2_with fail
                refine bodyPost_ret (v := .tuple #[.int .u64 0, .int .i64 0]) (by simp [results, Tryz.results61, go_sem]) rfl ?_
                rw [HN.out]
                exact ⟨rfl, rfl⟩
              · rw [if_neg (by rintro ⟨_, e⟩; exact hx0 (Option.some.inj e))] at hn
                have hX0 : x.toNat ≠ 0 := fun e => hx0 (UInt8.toNat_inj.1 e)
                obtain ⟨X, hX⟩ : ∃ X, x.toNat = X := ⟨_, rfl⟩
                rw [hX] at kx hX0
                have s5 : ¬ (X : Int) = 0 := by omega
                have s6 : ((X : Int) == 0) = false := by simpa using s5
                have HN := Lib.hid hn
                have HNN := Lib.hid hN
                clear hn hx hN hX hj0
                rw [Nat.add_zero, show a.add (p + 1) = ⟨a.block, a.off + (p + 1), none⟩ by unfold Addr.add; rw [if_neg (by omega)]] at kx
                go_wp2_with fail
                refine bodyPost_ret (v := .tuple #[.int .u64 ((foldB (l.take j) : Nat) : Int), .int .i64 ((j : Int) + 1)]) (by simp [results, Tryz.results61, go_sem]) rfl ?_
                rw [HN.out, HNN.out]
                exact ⟨rfl, rfl⟩
end Go.Proofs.YtkkembbeejlomaaGreatDoor

namespace Go.Proofs.YtkkembbeejlomaaGreatDoor
open Go.RowKit Go.Shelf Go.Lib

theorem RfAt.only {w w' : World} {g : Nat} {A : Option Addr} {cap : Nat} {bs : List UInt8} {p p' : Nat} {e e' bad bad' : Int} (h : RfAt w g A cap bs p e bad) (ho : Only g w w') (hp : p' ≤ bs.length) (hb : w'.heap[g]? = some (.cells #[.slice A bs.length cap, .int .i64 (p' : Int), .int .i64 e', .int .i64 bad'] 78 (0, 0))) : RfAt w' g A cap bs p' e' bad' :=
  ⟨hb, hp, h.room, h.max, fun i b hi => by
    obtain ⟨a, h1, h2, h3, h4⟩ := h.byt i b hi
    exact ⟨a, h1, Nat.lt_of_lt_of_le h2 ho.size, h3, (World.cell?_of_block (by rw [add_block]; exact ho.block _ h2 h3)).trans h4⟩⟩
theorem RfAt.below {w w' : World} {g : Nat} {A : Option Addr} {cap : Nat} {bs : List UInt8} {p : Nat} {e bad : Int} (h : RfAt w g A cap bs p e bad) (hb : Below w.heap.size w w') : RfAt w' g A cap bs p e bad :=
  h.only (Only.of_below hb) h.le ((hb.block g (heap_lt h.blk)).trans h.blk)
/-- The document's own reader, told by one state. -/
def RfS (w : World) (g : Nat) (A : Option Addr) (cap : Nat) (bs : List UInt8) : Option Nat → Prop
  | none => ∃ p e bad, e ≠ 0 ∧ RfAt w g A cap bs p e bad
  | some p => ∃ bad, RfAt w g A cap bs p 0 bad
theorem RfS.below {w w' : World} {g : Nat} {A : Option Addr} {cap : Nat} {bs : List UInt8} {st : Option Nat} (h : RfS w g A cap bs st) (hb : Below w.heap.size w w') : RfS w' g A cap bs st := by
  cases st with
  | none =>
    obtain ⟨p, e, bad, h1, h2⟩ := h
    exact ⟨p, e, bad, h1, h2.below hb⟩
  | some p =>
    obtain ⟨bad, h2⟩ := h
    exact ⟨bad, h2.below hb⟩
theorem RfS.lt {w : World} {g : Nat} {A : Option Addr} {cap : Nat} {bs : List UInt8} {st : Option Nat} (h : RfS w g A cap bs st) : g < w.heap.size := by
  cases st with
  | none =>
    obtain ⟨p, e, bad, h1, h2⟩ := h
    exact heap_lt h2.blk
  | some p =>
    obtain ⟨bad, h2⟩ := h
    exact heap_lt h2.blk
theorem RfS.keepB {w0 w w' : World} {g : Nat} {A : Option Addr} {cap : Nat} {bs : List UInt8} {s0 st : Option Nat} (h0 : RfS w0 g A cap bs s0) (h : RfS w g A cap bs st) (hb : Below w0.heap.size w w') (hA : ∀ a, A = some a → bs ≠ [] → a.block < w0.heap.size) : RfS w' g A cap bs st := by
  have hg := h0.lt
  have key : ∀ {p e bad}, RfAt w g A cap bs p e bad → RfAt w' g A cap bs p e bad := fun {p e bad} h => ⟨(hb.block g hg).trans h.blk, h.le, h.room, h.max, fun i b hi => by
    obtain ⟨a, h1, h2, h3, h4⟩ := h.byt i b hi
    have := hA a h1 (fun e => by rw [e] at hi; simp at hi)
    exact ⟨a, h1, Nat.lt_of_lt_of_le h2 hb.size, h3, (hb.cell (by rw [add_block]; exact this)).trans h4⟩⟩
  cases st with
  | none =>
    obtain ⟨p, e, bad, h1, h2⟩ := h
    exact ⟨p, e, bad, h1, key h2⟩
  | some p =>
    obtain ⟨bad, h2⟩ := h
    exact ⟨bad, key h2⟩
set_option maxRecDepth 100000 in
set_option maxHeartbeats 1000000 in
theorem rf_of {w : World} {A : Option Addr} {cap : Nat} {bs : List UInt8} (h1 : bs.length ≤ cap) (h2 : cap ≤ maxLen) (h3 : ∀ i b, bs[i]? = some b → ∃ a : Addr, A = some a ∧ a.block < w.heap.size ∧ w.cell? (a.add i) = some (.int .u8 (b.toNat : Int))) :
    Calls Tryz.prog 35 #[.slice A bs.length cap] w fun e w' => ∃ g, e = .returned (.pointer (some ⟨g, 0, none⟩)) ∧ w.heap.size ≤ g ∧ RfS w' g A cap bs (some 0) ∧ Below w.heap.size w w' := by
  have H := Lib.hid (And.intro h1 (And.intro h2 h3))
  clear h1 h2 h3
  go_enter Tryz.func35, Tryz.ntmps35
  go_wp2
  go_ret
  obtain ⟨h1, h2, h3⟩ := H.out
  have hA : Below w.heap.size w (w.alloc (.cells #[.slice A bs.length cap, .int .i64 0, .int .i64 0, .int .i64 (-1)] 78)) := below_new _
  refine ⟨w.heap.size, rfl, Nat.le_refl _, ⟨-1, alloc_at w _, Nat.zero_le _, h1, h2, fun i b hi => ?_⟩, hA⟩
  obtain ⟨a, q1, q2, q3⟩ := h3 i b hi
  exact ⟨a, q1, Nat.lt_of_lt_of_le q2 hA.size, by omega, (hA.cell (by rw [add_block]; exact q2)).trans q3⟩
set_option maxRecDepth 100000 in
set_option maxHeartbeats 1000000 in
theorem rf_wrong {w : World} {g : Nat} {A : Option Addr} {cap : Nat} {bs : List UInt8} {p : Nat} {e bad : Int} (h : RfAt w g A cap bs p e bad) (e' : Int) :
    Calls Tryz.prog 62 #[.pointer (some ⟨g, 0, none⟩), .int .i64 (p : Int), .int .i64 e'] w fun x w' => x = .returned (.tuple #[]) ∧ RfAt w' g A cap bs p e' p ∧ Only g w w' := by
  have c1 : w.cell? ⟨g, 1, none⟩ = some (.int .i64 (p : Int)) := cell_of h.blk 1
  have c2 : w.cell? ⟨g, 2, none⟩ = some (.int .i64 e) := cell_of h.blk 2
  have c3 : w.cell? ⟨g, 3, none⟩ = some (.int .i64 bad) := cell_of h.blk 3
  have f1 := free0 h.blk 1
  have f2 := free0 h.blk 2
  have f3 := free0 h.blk 3
  have H := Lib.hid h
  clear h
  go_enter Tryz.func62, Tryz.ntmps62
  go_wp2
  go_end0
  have b1 := set_at H.out.blk 2 (.int .i64 e')
  have b2 := set_at b1 3 (.int .i64 (p : Int))
  have b3 := set_at b2 1 (.int .i64 (p : Int))
  have ho := (((Only.refl g w).setCell 2 (.int .i64 e')).setCell 3 (.int .i64 (p : Int))).setCell 1 (.int .i64 (p : Int))
  exact ⟨rfl, H.out.only ho H.out.le (by simpa using b3), ho⟩
set_option maxRecDepth 100000 in
set_option maxHeartbeats 2000000 in
/-- Nat. -/
theorem rnat_u {w : World} {g : Nat} {A : Option Addr} {cap : Nat} {bs : List UInt8} {st : Option Nat} (h : RfS w g A cap bs st) :
    Calls Tryz.prog 36 #[.pointer (some ⟨g, 0, none⟩)] w fun e w' => e = .returned (.int .u64 ((natS bs st).1 : Int)) ∧ RfS w' g A cap bs (natS bs st).2 ∧ Only g w w' := by
  cases st with
  | none =>
    obtain ⟨p, e, bad, he, hR⟩ := h
    have c2 : w.cell? ⟨g, 2, none⟩ = some (.int .i64 e) := cell_of hR.blk 2
    have he2 : (e == 0) = false := by simpa using he
    have H := Lib.hid (show RfS w g A cap bs none from ⟨p, e, bad, he, hR⟩)
    clear hR
    go_enter Tryz.func36, Tryz.ntmps36
    go_wp2_with fail
    go_ret
    exact ⟨rfl, H.out, Only.refl _ _⟩
  | some p =>
    obtain ⟨bad, hR⟩ := h
    have c2 : w.cell? ⟨g, 2, none⟩ = some (.int .i64 0) := cell_of hR.blk 2
    have c1 : w.cell? ⟨g, 1, none⟩ = some (.int .i64 (p : Int)) := cell_of hR.blk 1
    have f1 := free0 hR.blk 1
    have HN := Lib.hid (rf_nat hR)
    have HW := Lib.hid (rf_wrong hR 6)
    have H := Lib.hid hR
    have hpl := hR.le
    have hcm := hR.room
    have hmx := hR.max
    unfold maxLen at hmx
    cases hp : natP (bs.drop p) with
    | none =>
      have e1 : natS bs (some p) = (0, none) := by unfold natS; simp only [hp]
      rw [e1]
      rw [hp] at HN
      clear hR hp
      go_enter Tryz.func36, Tryz.ntmps36
      go_wp2_with fail
      refine (HN.out).mono ?_
      rintro e w' ⟨rfl, rfl⟩
      go_wp2_with fail
      refine (HW.out).mono ?_
      rintro e w' ⟨rfl, h1, h2⟩
      have HF := Lib.hid (And.intro h1 h2)
      clear h1 h2
      go_wp2_with fail
      go_ret
      exact ⟨rfl, ⟨_, _, _, by decide, HF.out.1⟩, HF.out.2⟩
    | some x =>
      obtain ⟨n, sz⟩ := x
      have e1 : natS bs (some p) = (n, some (p + sz)) := by unfold natS; simp only [hp]
      rw [e1]
      rw [hp] at HN
      have hs := natP_size hp
      rw [List.length_drop] at hs
      have s0 : ((sz : Int) == 0) = false := by simp; omega
      have s1 : IntKind.i64.wrap ((p : Int) + (sz : Int)) = (p : Int) + (sz : Int) := IntWalk.i64_in _ (by omega)
      have HS : Hid (p + sz ≤ bs.length) := Lib.hid (by omega)
      clear hR hp hpl hcm hmx hs
      go_enter Tryz.func36, Tryz.ntmps36
      go_wp2_with fail
      refine (HN.out).mono ?_
      rintro e w' ⟨rfl, rfl⟩
      dsimp only [Option.getD_some]
      go_wp2_with fail
      go_ret
      have b1 := set_at H.out.blk 1 (.int .i64 ((p : Int) + (sz : Int)))
      have ho := (Only.refl g w).setCell 1 (.int .i64 ((p : Int) + (sz : Int)))
      exact ⟨rfl, ⟨bad, H.out.only ho HS.out (by simpa using b1)⟩, ho⟩
end Go.Proofs.YtkkembbeejlomaaGreatDoor

namespace Go.Proofs.YtkkembbeejlomaaGreatDoor
open Go.RowKit Go.Shelf Go.Lib

theorem addr_add (a : Addr) (i j : Nat) : (a.add i).add j = a.add (i + j) := by
  unfold Addr.add
  by_cases hi : i = 0
  · subst hi; simp
  · by_cases hj : j = 0
    · subst hj; simp
    · rw [if_neg hi, if_neg hj, if_neg (by omega)]
      simp [Nat.add_assoc]
set_option maxRecDepth 100000 in
set_option maxHeartbeats 2000000 in
/-- Num. -/
theorem rnum_u {w : World} {g : Nat} {A : Option Addr} {cap : Nat} {bs : List UInt8} {st : Option Nat} (h : RfS w g A cap bs st) :
    Calls Tryz.prog 38 #[.pointer (some ⟨g, 0, none⟩)] w fun e w' => e = .returned (.int .i64 (numS bs st).1) ∧ RfS w' g A cap bs (numS bs st).2 ∧ Only g w w' := by
  have HN := Lib.hid (rnat_u h)
  have hn := natS_le bs st
  unfold numS
  obtain ⟨n, hnn⟩ : ∃ n, (natS bs st).1 = n := ⟨_, rfl⟩
  rw [hnn] at HN hn ⊢
  have HNN := Lib.hid hnn
  clear h hnn
  have q0 : (0 : Int) ≤ (n : Int) := by omega
  have q1 : (n : Int) ≤ 18446744073709551615 := by omega
  by_cases h2 : n % 2 = 1
  · have e : numV n = -1 - (n : Int) / 2 := by unfold numV; rw [if_pos h2]; omega
    rw [e]
    have h2' : (n : Int) % 2 = 1 := by omega
    have q2 : (n : Int) / 2 ≤ 9223372036854775807 := by omega
    have q3 : (0 : Int) ≤ (n : Int) / 2 := by omega
    go_enter Tryz.func38, Tryz.ntmps38
    go_wp2_with fail
    refine (HN.out).mono ?_
    rintro e w1 ⟨rfl, hR, hO⟩
    have HR := Lib.hid hR
    have HO := Lib.hid hO
    clear hR hO
    go_wp2
    go_ret
    exact ⟨rfl, HR.out, HO.out⟩
  · have e : numV n = (n : Int) / 2 := by unfold numV; rw [if_neg h2]; omega
    rw [e]
    have h2' : ¬ (n : Int) % 2 = 1 := by omega
    have q2 : (n : Int) / 2 ≤ 9223372036854775807 := by omega
    have q3 : (0 : Int) ≤ (n : Int) / 2 := by omega
    go_enter Tryz.func38, Tryz.ntmps38
    go_wp2_with fail
    refine (HN.out).mono ?_
    rintro e w1 ⟨rfl, hR, hO⟩
    have HR := Lib.hid hR
    have HO := Lib.hid hO
    clear hR hO
    go_wp2
    go_ret
    exact ⟨rfl, HR.out, HO.out⟩
set_option maxRecDepth 100000 in
set_option maxHeartbeats 2000000 in
/-- End. -/
theorem rend_u {w : World} {g : Nat} {A : Option Addr} {cap : Nat} {bs : List UInt8} {st : Option Nat} (h : RfS w g A cap bs st) :
    Calls Tryz.prog 39 #[.pointer (some ⟨g, 0, none⟩)] w fun e w' => ∃ x : Int, e = .returned (.int .i64 x) ∧ (x == 0) = decide (st = some bs.length) ∧ Only g w w' := by
  cases st with
  | none =>
    obtain ⟨p, e, bad, he, hR⟩ := h
    have c2 : w.cell? ⟨g, 2, none⟩ = some (.int .i64 e) := cell_of hR.blk 2
    have he2 : (e == 0) = false := by simpa using he
    clear hR
    go_enter Tryz.func39, Tryz.ntmps39
    go_wp2_with fail
    go_quiet (fail)
    go_wp2_with fail
    go_ret
    exact ⟨e, rfl, by simpa using he, Only.of_below (below_drewN (Below.refl _ _) _)⟩
  | some p =>
    obtain ⟨bad, hR⟩ := h
    have c2 : w.cell? ⟨g, 2, none⟩ = some (.int .i64 0) := cell_of hR.blk 2
    have c1 : w.cell? ⟨g, 1, none⟩ = some (.int .i64 (p : Int)) := cell_of hR.blk 1
    have c0 : w.cell? ⟨g, 0, none⟩ = some (.slice A bs.length cap) := cell_of hR.blk 0
    have hpl := hR.le
    by_cases hp : p = bs.length
    · have hd : decide ((p : Int) < (bs.length : Int)) = false := by simp; omega
      clear hR
      go_enter Tryz.func39, Tryz.ntmps39
      go_wp2_with fail
      go_quiet (fail)
      go_wp2_with fail
      go_ret
      exact ⟨0, rfl, by simp [hp], Only.of_below (below_drewN (Below.refl _ _) _)⟩
    · have hd : decide ((p : Int) < (bs.length : Int)) = true := by simp; omega
      have HW := Lib.hid (fun k => rf_wrong (hR.below (below_drewN (Below.refl _ _) k)) 6)
      clear hR
      go_enter Tryz.func39, Tryz.ntmps39
      go_wp2_with fail
      go_quiet (fail)
      go_wp2_with fail
      refine (HW.out _).mono ?_
      rintro e w' ⟨rfl, h1, h2⟩
      have d2 : w'.cell? ⟨g, 2, none⟩ = some (.int .i64 6) := cell_of h1.blk 2
      have HF := Lib.hid ((Only.of_below (below_drewN (Below.refl _ _) _)).trans h2)
      clear h1 h2
      go_wp2_with fail
      go_ret
      exact ⟨6, rfl, by simp [hp], HF.out⟩
set_option maxRecDepth 100000 in
set_option maxHeartbeats 4000000 in
/-- Str. -/
theorem rstr_u {w : World} {g : Nat} {A : Option Addr} {cap : Nat} {bs : List UInt8} {st : Option Nat} {most : Nat} (hm : most ≤ 1073741824) (h : RfS w g A cap bs st) :
    Calls Tryz.prog 37 #[.pointer (some ⟨g, 0, none⟩), .int .i64 (most : Int)] w fun e w' => e = .returned (.string (strS most bs st).1) ∧ RfS w' g A cap bs (strS most bs st).2 ∧ Only g w w' := by
  cases st with
  | none =>
    obtain ⟨p, e, bad, he, hR⟩ := h
    have c2 : w.cell? ⟨g, 2, none⟩ = some (.int .i64 e) := cell_of hR.blk 2
    have he2 : (e == 0) = false := by simpa using he
    have H := Lib.hid (show RfS w g A cap bs none from ⟨p, e, bad, he, hR⟩)
    clear hR
    go_enter Tryz.func37, Tryz.ntmps37
    go_wp2_with fail
    go_ret
    exact ⟨rfl, H.out, Only.refl _ _⟩
  | some p =>
    obtain ⟨bad, hR⟩ := h
    have c2 : w.cell? ⟨g, 2, none⟩ = some (.int .i64 0) := cell_of hR.blk 2
    have c1 : w.cell? ⟨g, 1, none⟩ = some (.int .i64 (p : Int)) := cell_of hR.blk 1
    have c0 : w.cell? ⟨g, 0, none⟩ = some (.slice A bs.length cap) := cell_of hR.blk 0
    have f1 := free0 hR.blk 1
    have HN := Lib.hid (rf_nat hR)
    have HW := Lib.hid (fun k e => rf_wrong (hR.below (below_drewN (Below.refl _ _) k)) e)
    have HW0 := Lib.hid (fun e => rf_wrong hR e)
    have H := Lib.hid hR
    have hpl := hR.le
    have hcm := hR.room
    have hmx := hR.max
    unfold maxLen at hmx
    have m0 : ¬ (most : Int) < 0 := by omega
    have m1 : IntKind.u64.wrap (most : Int) = (most : Int) := by rw [IntKind.wrap_u64]; omega
    cases hp : natP (bs.drop p) with
    | none =>
      have e1 : strS most bs (some p) = (⟨#[]⟩, none) := by unfold strS strP; simp only [hp]
      rw [e1]
      rw [hp] at HN
      clear hR hp
      go_enter Tryz.func37, Tryz.ntmps37
      go_wp2_with fail
      refine (HN.out).mono ?_
      rintro e w' ⟨rfl, rfl⟩
      go_wp2_with fail
      refine (HW0.out 6).mono ?_
      rintro e w' ⟨rfl, h1, h2⟩
      have HF := Lib.hid (And.intro h1 h2)
      clear h1 h2
      go_wp2_with fail
      go_ret
      exact ⟨rfl, ⟨_, _, _, by decide, HF.out.1⟩, HF.out.2⟩
    | some x =>
      obtain ⟨n, sz⟩ := x
      rw [hp] at HN
      have hs := natP_size hp
      rw [List.length_drop] at hs
      have hn := (natP_only hp).1
      have s0 : ((sz : Int) == 0) = false := by simp; omega
      have s1 : IntKind.i64.wrap ((p : Int) + (sz : Int)) = (p : Int) + (sz : Int) := IntWalk.i64_in _ (by omega)
      by_cases hlong : most < n
      · have e1 : strS most bs (some p) = (⟨#[]⟩, none) := by
          unfold strS strP; simp only [hp]; rw [if_pos hlong]
        rw [e1]
        have t0 : (most : Int) < (n : Int) := by omega
        clear hR hp
        go_enter Tryz.func37, Tryz.ntmps37
        go_wp2_with fail
        refine (HN.out).mono ?_
        rintro e w' ⟨rfl, rfl⟩
        dsimp only [Option.getD_some]
        go_wp2_with fail
        refine (HW0.out 7).mono ?_
        rintro e w' ⟨rfl, h1, h2⟩
        have HF := Lib.hid (And.intro h1 h2)
        clear h1 h2
        go_wp2_with fail
        go_ret
        exact ⟨rfl, ⟨_, _, _, by decide, HF.out.1⟩, HF.out.2⟩
      · have t0 : ¬ (most : Int) < (n : Int) := by omega
        have t1 : IntKind.i64.wrap ((bs.length : Int) - (p : Int)) = (bs.length : Int) - (p : Int) := IntWalk.i64_in _ (by omega)
        have t2 : IntKind.i64.wrap ((bs.length : Int) - (p : Int) - (sz : Int)) = (bs.length : Int) - (p : Int) - (sz : Int) := IntWalk.i64_in _ (by omega)
        have t3 : IntKind.u64.wrap ((bs.length : Int) - (p : Int) - (sz : Int)) = (bs.length : Int) - (p : Int) - (sz : Int) := by rw [IntKind.wrap_u64]; omega
        by_cases hcut : bs.length < p + sz + n
        · have e1 : strS most bs (some p) = (⟨#[]⟩, none) := by
            unfold strS strP; simp only [hp]; rw [if_neg hlong, if_pos (by rw [List.length_drop]; omega)]
          rw [e1]
          have t4 : (bs.length : Int) - (p : Int) - (sz : Int) < (n : Int) := by omega
          clear hR hp
          go_enter Tryz.func37, Tryz.ntmps37
          go_wp2_with fail
          refine (HN.out).mono ?_
          rintro e w' ⟨rfl, rfl⟩
          dsimp only [Option.getD_some]
          go_wp2_with fail
          go_quiet (fail)
          go_wp2_with fail
          refine (HW.out _ 6).mono ?_
          rintro e w' ⟨rfl, h1, h2⟩
          have HF := Lib.hid (And.intro h1 ((Only.of_below (below_drewN (Below.refl _ _) _)).trans h2))
          clear h1 h2
          go_wp2_with fail
          go_ret
          exact ⟨rfl, ⟨_, _, _, by decide, HF.out.1⟩, HF.out.2⟩
        · have e1 : strS most bs (some p) = (⟨((bs.drop (p + sz)).take n).toArray⟩, some (p + sz + n)) := by
            unfold strS strP; simp only [hp]; rw [if_neg hlong, if_neg (by rw [List.length_drop]; omega)]
            simp [Nat.add_assoc]
          rw [e1]
          have t4 : ¬ (bs.length : Int) - (p : Int) - (sz : Int) < (n : Int) := by omega
          obtain ⟨b0, hb0⟩ : ∃ b, bs[0]? = some b := ⟨_, List.getElem?_eq_getElem (by omega)⟩
          obtain ⟨a, rfl, _, _, _⟩ := hR.byt 0 b0 hb0
          obtain ⟨q, hq⟩ : ∃ q, p + sz = q := ⟨_, rfl⟩
          obtain ⟨E, hE⟩ : ∃ E, q + n = E := ⟨_, rfl⟩
          rw [hq, hE]
          have hcv : Hid (∀ (b : Addr) (c k m : Nat), (n ≠ 0 → b = a.add q) → (convert 39 9 (.slice (some b) n c)).run Tryz.prog ((w.drewN k).drewN m) = .ok (.string ⟨((bs.drop q).take n).toArray⟩) ((w.drewN k).drewN m)) := Lib.hid (by
            intro b c k m ha
            have hln : ((bs.drop q).take n).length = n := by rw [List.length_take, List.length_drop]; omega
            have := run_convert_bytes_back (P := Tryz.prog) ((w.drewN k).drewN m) 39 9 5 b c ((bs.drop q).take n) Tryz.underlying39 Tryz.underlying5 Tryz.underlying9 (fun j hj => by
              rw [hln] at hj
              obtain rfl := ha (by omega)
              have hb : bs[q + j]? = some bs[q + j] := List.getElem?_eq_getElem (by omega)
              obtain ⟨a', e, h1, h2, h3⟩ := hR.byt (q + j) _ hb
              cases e
              rw [addr_add, show ((bs.drop q).take n)[j]'(by rw [hln]; exact hj) = bs[q + j] by simp]
              exact h3)
            rw [hln] at this
            exact this)
          have hmv2 : Hid (∀ k, RfAt ((w.drewN k).setCell ⟨g, 1, none⟩ (.int .i64 (E : Int))) g (some a) cap bs E 0 bad ∧ Only g w ((w.drewN k).setCell ⟨g, 1, none⟩ (.int .i64 (E : Int)))) := Lib.hid (fun k => by
            have ho := (Only.of_below (bt := g) (below_drewN (Below.refl w.heap.size w) k)).setCell 1 (.int .i64 (E : Int))
            have hb : (w.drewN k).heap[g]? = _ := hR.blk
            exact ⟨hR.only ho (by omega) (by simpa using set_at hb 1 (.int .i64 (E : Int))), ho⟩)
          have s2 : IntKind.i64.wrap ((p : Int) + (sz : Int)) = (q : Int) := by rw [s1]; omega
          have t5 : IntKind.i64.wrap (n : Int) = (n : Int) := IntWalk.i64_in _ (by omega)
          have t6 : IntKind.i64.wrap ((q : Int) + (n : Int)) = (E : Int) := by rw [IntWalk.i64_in _ (by omega)]; omega
          have t7 : IntKind.i64.wrap ((sz : Int) + (n : Int)) = (sz : Int) + (n : Int) := IntWalk.i64_in _ (by omega)
          have t8 : IntKind.i64.wrap ((p : Int) + ((sz : Int) + (n : Int))) = (E : Int) := by rw [IntWalk.i64_in _ (by omega)]; omega
          have q12 : E - q = n := by omega
          have q13 : q ≤ E := by omega
          have q14 : (E : Int) ≤ (cap : Int) := by omega
          have q15 : E ≤ cap := by omega
          have q16 : (q : Int) ≤ (E : Int) := by omega
          have q17 : q ≤ cap := by omega
          clear hR hp hb0 s1 hq
          go_enter Tryz.func37, Tryz.ntmps37
          go_wp2_with fail
          refine (HN.out).mono ?_
          rintro e w' ⟨rfl, rfl⟩
          dsimp only [Option.getD_some]
          go_wp2_with fail
          go_quiet (fail)
          go_wp2_with fail
          by_cases hcp : cap = q
          · have hcv' := fun (b : Addr) m => hcv.out b 0 nq m (fun h => absurd (show n = 0 by omega) h)
            have hcv2 : ∀ (b : Addr) m, (convert 39 9 (.slice (some b) n 0)).run Tryz.prog (w.drewN (nq + m)) = .ok (.string ⟨((bs.drop q).take n).toArray⟩) (w.drewN (nq + m)) := fun b m => by
              have := hcv' b m
              rw [World.drewN_drewN] at this
              exact this
            subst hcp
            go_quiet (fail)
            go_wp2_with fail
            go_ret
            obtain ⟨hm1, hm2⟩ := hmv2.out _
            exact ⟨rfl, ⟨bad, hm1⟩, hm2⟩
          · have hcv' := fun m => hcv.out (a.add q) (cap - q) nq m (fun _ => rfl)
            have hcv2 : ∀ m, (convert 39 9 (.slice (some (a.add q)) n (cap - q))).run Tryz.prog (w.drewN (nq + m)) = .ok (.string ⟨((bs.drop q).take n).toArray⟩) (w.drewN (nq + m)) := fun m => by
              have := hcv' m
              rw [World.drewN_drewN] at this
              exact this
            go_quiet (fail)
            go_wp2_with fail
            go_ret
            obtain ⟨hm1, hm2⟩ := hmv2.out _
            exact ⟨rfl, ⟨bad, hm1⟩, hm2⟩
end Go.Proofs.YtkkembbeejlomaaGreatDoor
