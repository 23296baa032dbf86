/- The reader of package octet, where what is read is there: Nat, Err, Place. (Of stage 1's OctQ.) -/
import Derived.Test.YtfaaeacgmlklhaaDoorZOmpA
set_option linter.unusedSimpArgs false
set_option linter.unusedVariables false
set_option linter.unnecessarySimpa false
namespace Go.Proofs.YtfaaeacgmlklhaaDoor
open Go.RowKit Go.Shelf Go.Lib


theorem addo (g o n : Nat) : (⟨g, o, none⟩ : Addr).add n = ⟨g, o + n, none⟩ := by
  unfold Addr.add
  split
  · subst n; rfl
  · rfl
theorem nat_some {w : World} {gb o N cap n sz : Nat} {l : List UInt8} (hl : l.length = N) (hc : N ≤ cap) (hm : cap ≤ 9223372036854775807) (hcell : ∀ i b, l[i]? = some b → w.cell? ⟨gb, o + i, none⟩ = some (.int .u8 (b.toNat : Int))) (hp : natP l = some (n, sz)) :
    Calls Tryd.prog 56 #[.slice (some ⟨gb, o, none⟩) N cap] w fun e w' => e = .returned (.tuple #[.int .u64 (n : Int), .int .i64 (sz : Int), .bool true]) ∧ w' = w := by
  subst hl
  cases l with
  | nil => simp [natP] at hp
  | cons k r =>
    rw [natP] at hp
    split at hp
    · cases hp
    · rename_i h8
      split at hp
      · cases hp
      · rename_i hr
        split at hp
        · cases hp
        · rename_i h0
          have hp := Option.some.inj hp
          have h1 : foldB (r.take k.toNat) = n := congrArg Prod.fst hp
          have h2 : k.toNat + 1 = sz := congrArg Prod.snd hp
          have hk := hcell 0 k rfl
          by_cases hz : k.toNat = 0
          · rw [hz] at hk h1 h2
            have e1 : n = 0 := by rw [← h1]; rfl
            subst e1
            have e2 : sz = 1 := h2.symm
            subst e2
            exact (nat_zero (m := r.length) hc hm (by simpa using hk)).mono fun e w' ⟨he, hw⟩ => ⟨by rw [he]; rfl, hw⟩
          · have hx : r[0]? = some r[0] := List.getElem?_eq_getElem (by omega)
            have hx0 : r[0] ≠ 0 := fun h => h0 ⟨by omega, by rw [hx, h]⟩
            have hkn : k.toNat ≤ 8 := by omega
            refine (nat_pos (m := r.length) (n := k.toNat) (l := r.take k.toNat) (x0 := r[0]) hc hm (by omega) (by omega) hkn (by rw [List.length_take]; omega) (by simpa using hk) (hcell 1 r[0] (by simp)) hx0 ?_).mono fun e w' ⟨he, hw⟩ => ⟨by rw [he, h1, ← h2]; rfl, hw⟩
            intro i b hi
            rw [List.getElem?_take] at hi
            split at hi
            · have := hcell (i + 1) b (by simpa using hi)
              rw [show o + 1 + i = o + (i + 1) from by omega]; exact this
            · cases hi
theorem natP_size {l : List UInt8} {n sz : Nat} (h : natP l = some (n, sz)) : sz ≤ l.length ∧ 1 ≤ sz := by
  cases l with
  | nil => simp [natP] at h
  | cons k r =>
    rw [natP] at h
    split at h
    · cases h
    · split at h
      · cases h
      · split at h
        · cases h
        · have h2 : k.toNat + 1 = sz := congrArg Prod.snd (Option.some.inj h)
          rw [List.length_cons]; omega

theorem Rd.move {w : World} {g : Nat} {A : Option Addr} {cap : Nat} {bs : List UInt8} {pos : Nat} {ev : Value} {c : List Lk} (h : Rd w g A cap bs pos ev c) (k p : Nat) (hp : p ≤ bs.length) :
    Rd ((w.drewN k).setCell ⟨g, 1, none⟩ (.int .i64 (p : Int))) g A cap bs p ev c ∧ Only g w ((w.drewN k).setCell ⟨g, 1, none⟩ (.int .i64 (p : Int))) := by
  have ho : Only g w ((w.drewN k).setCell ⟨g, 1, none⟩ (.int .i64 (p : Int))) := (Only.of_below (below_drewN (Below.refl _ _) k)).setCell 1 _
  have hb : (w.drewN k).heap[g]? = some (.cells #[.slice A bs.length cap, .int .i64 (pos : Int), ev] 79 (0, 0)) := h.blk
  refine ⟨⟨by simpa using set_at hb 1 (.int .i64 (p : Int)), ErrIs.only h.blk ho.block _ _ h.err, h.le, h.max, hp, fun i b hi => ?_⟩, ho⟩
  obtain ⟨gb, q1, q2, q3, q4⟩ := h.byt i b hi
  exact ⟨gb, q1, q2, Nat.lt_of_lt_of_le q3 ho.size, (World.cell?_of_block (a := ⟨gb, i, none⟩) (ho.block gb q3 q2)).trans q4⟩
theorem Only.trans {g : Nat} {a b c : World} (h : Only g a b) (k : Only g b c) : Only g a c :=
  ⟨k.os.trans h.os, k.tape.trans h.tape, k.output.trans h.output, Nat.le_trans h.size k.size, fun i hi hne => (k.block i (Nat.lt_of_lt_of_le hi h.size) hne).trans (h.block i hi hne)⟩
set_option maxRecDepth 100000 in
set_option maxHeartbeats 2000000 in
theorem rnat_ok {w : World} {g : Nat} {A : Option Addr} {cap : Nat} {bs : List UInt8} {pos n sz : Nat} (h : Rd w g A cap bs pos .nilIface []) (hp : natP (bs.drop pos) = some (n, sz)) :
    Calls Tryd.prog 40 #[.pointer (some ⟨g, 0, none⟩)] w fun e w' => e = .returned (.int .u64 (n : Int)) ∧ Rd w' g A cap bs (pos + sz) .nilIface [] ∧ Only g w w' := by
  have hs := natP_size hp
  rw [List.length_drop] at hs
  have hlt : pos < bs.length := by omega
  obtain ⟨gb, rfl, hgg, hgl, _⟩ := h.byt 0 bs[0] (List.getElem?_eq_getElem (by omega))
  have hm := h.max
  unfold maxLen at hm
  have hle := h.le
  have H72 := Lib.hid (fun k : Nat => nat_some (w := w.drewN k) (gb := gb) (o := pos) (N := bs.length - pos) (cap := cap - pos) (l := bs.drop pos) (by rw [List.length_drop]) (by omega) (by omega) (fun i b hi => by
    rw [List.getElem?_drop] at hi
    obtain ⟨gb', he, _, _, hc⟩ := h.byt (pos + i) b hi
    cases he; exact hc) hp)
  have HG := Lib.hid (good_yes h)
  have c0 := cell_of_row w g 0 _ _ _ h.blk
  have c1 := cell_of_row w g 1 _ _ _ h.blk
  have f1 := free0 h.blk 1
  simp at c0 c1
  have H := Lib.hid h
  have q1 : pos ≤ cap := by omega
  have q2 : pos ≤ bs.length := by omega
  have q3 : ¬ cap = pos := by omega
  have q4 : (pos : Int) + (sz : Int) ≤ 9223372036854775807 := by omega
  clear h hp hm
  go_enter Tryd.func40, Tryd.ntmps40
  go_wp2_with fail
  refine (HG.out).mono ?_
  rintro e w' ⟨rfl, rfl⟩
  go_wp2_with fail
  go_quiet ((go_at_call 56; exact Calls.quiet_of_same (H72.out _)))
  go_wp2
  go_ret
  have hmv := H.out.move nq (pos + sz) (by omega)
  have e : ((pos + sz : Nat) : Int) = (pos : Int) + (sz : Int) := by omega
  rw [e] at hmv
  exact ⟨rfl, hmv.1, hmv.2⟩

set_option maxRecDepth 100000 in
set_option maxHeartbeats 2000000 in
theorem count_long {w : World} {g : Nat} {A : Option Addr} {cap : Nat} {bs : List UInt8} {pos n sz most : Nat} (h : Rd w g A cap bs pos .nilIface []) (hp : natP (bs.drop pos) = some (n, sz)) (hmost : most < n) (hm64 : most ≤ 1073741824) :
    Calls Tryd.prog 45 #[.pointer (some ⟨g, 0, none⟩), .int .i64 (most : Int)] w fun e w' => e = .returned (.int .i64 0) ∧ (∃ t u, Rd w' g A cap bs pos (.iface t u) [.plc pos, .num 7]) ∧ Only g w w' := by
  have HG := Lib.hid (good_yes h)
  have HN := Lib.hid (rnat_ok h hp)
  have c1 := cell_of_row w g 1 _ _ _ h.blk
  simp at c1
  have H := Lib.hid h
  have hpl := h.pos_le
  have q1 : (most : Int) < (n : Int) := by omega
  have q2 : (0 : Int) ≤ (most : Int) := by omega
  have q3 : (most : Int) ≤ 1073741824 := by omega
  clear h hp
  go_enter Tryd.func45, Tryd.ntmps45
  go_wp2_with fail
  refine (HG.out).mono ?_
  rintro e w' ⟨rfl, rfl⟩
  go_wp2_with fail
  refine (HN.out).mono ?_
  rintro e w1 ⟨rfl, hR, hO⟩
  have HR := Lib.hid hR
  have HO := Lib.hid hO
  clear hR hO c1
  go_wp2_with fail
  refine (wrong_any pos 7 (by decide) hpl HR.out).mono ?_
  rintro e w2 ⟨rfl, ⟨ev, hR2⟩, hO2⟩
  obtain ⟨t, u, rfl⟩ := hR2.err.form1
  have HR2 := Lib.hid hR2
  have HO2 := Lib.hid hO2
  clear hR2 hO2
  go_wp2
  go_ret
  exact ⟨rfl, ⟨_, _, HR2.out⟩, HO.out.trans HO2.out⟩

set_option maxRecDepth 100000 in
set_option maxHeartbeats 2000000 in
theorem rstr_long {w : World} {g : Nat} {A : Option Addr} {cap : Nat} {bs : List UInt8} {pos n sz most : Nat} (h : Rd w g A cap bs pos .nilIface []) (hp : natP (bs.drop pos) = some (n, sz)) (hmost : most < n) (hm64 : most ≤ 1073741824) :
    Calls Tryd.prog 23 #[.pointer (some ⟨g, 0, none⟩), .int .i64 (most : Int)] w fun e w' => e = .returned (.string ⟨#[]⟩) ∧ (∃ t u, Rd w' g A cap bs pos (.iface t u) [.plc pos, .num 7]) ∧ Only g w w' := by
  have HG := Lib.hid (good_yes h)
  have HN := Lib.hid (count_long h hp hmost hm64)
  have c1 := cell_of_row w g 1 _ _ _ h.blk
  simp at c1
  clear h hp
  go_enter Tryd.func23, Tryd.ntmps23
  go_wp2_with fail
  refine (HG.out).mono ?_
  rintro e w' ⟨rfl, rfl⟩
  go_wp2_with fail
  refine (HN.out).mono ?_
  rintro e w1 ⟨rfl, ⟨t, u, hR⟩, hO⟩
  have HR := Lib.hid hR
  have HO := Lib.hid hO
  have HG2 := Lib.hid (good_no hR)
  clear hR hO c1
  go_wp2_with fail
  refine (HG2.out).mono ?_
  rintro e w' ⟨rfl, rfl⟩
  go_wp2
  go_ret
  exact ⟨rfl, ⟨_, _, HR.out⟩, HO.out⟩

set_option maxRecDepth 100000 in
set_option maxHeartbeats 1000000 in
theorem rerr_any {w : World} {g : Nat} {A : Option Addr} {cap : Nat} {bs : List UInt8} {pos : Nat} {ev : Value} {c : List Lk} (hG : Glob w) (h : Rd w g A cap bs pos ev c) (hok : NumOk c) (hlt : c.length < 1000) :
    Calls Tryd.prog 48 #[.pointer (some ⟨g, 0, none⟩)] w fun e w' => e = .returned (.int .i64 (codeOf c)) ∧ Below w.heap.size w w' := by
  have HC := Lib.hid (code_any hG h.err hok hlt (Below.refl _ _))
  have c2 := cell_of_row w g 2 _ _ _ h.blk
  simp at c2
  clear h hG hok hlt
  go_enter Tryd.func48, Tryd.ntmps48
  go_wp2_with fail
  refine (HC.out).mono ?_
  rintro e w1 ⟨rfl, hb⟩
  have HB := Lib.hid hb
  clear hb
  go_wp2
  go_ret
  exact ⟨rfl, HB.out⟩
end Go.Proofs.YtfaaeacgmlklhaaDoor
