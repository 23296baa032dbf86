/- The tape: Append's inner function. -/
import Derived.Test.YtojmfjmnfpnmmaaDoorTapG
set_option linter.unusedSimpArgs false
set_option linter.unusedVariables false
set_option linter.unnecessarySimpa false
namespace Go.Proofs.YtojmfjmnfpnmmaaDoor
open Go.RowKit
open Go.Maps (Keyed)

/-- What stands in the segments. -/
def abs (L : List Ent) : List (Int × List UInt8 × Nat) := L.map fun e => (e.n, e.b, e.s)
def appA (A : List (Int × List UInt8 × Nat)) (n : Int) (d : List UInt8) : List (Int × List UInt8 × Nat) :=
  if A.any (fun x => x.1 == n) then A.map (fun x => if x.1 = n then (x.1, x.2.1 ++ d, x.2.2) else x) else A ++ [(n, d, 0)]
structure Alike (T T' : Tp) : Prop where
  room : T'.room = T.room
  fused : T'.fused = T.fused
  left : T'.left = T.left
  down : T'.down = T.down
theorem any_abs {L : List Ent} {n : Int} {j : Nat} {e : Ent} (hj : L[j]? = some e) (he : e.n = n) : (abs L).any (fun x => x.1 == n) = true := by
  rw [List.any_eq_true]
  exact ⟨_, List.mem_map.2 ⟨e, List.mem_of_getElem? hj, rfl⟩, by simpa using he⟩
theorem any_abs_no {L : List Ent} {n : Int} (hL : ∀ e ∈ L, e.n ≠ n) : (abs L).any (fun x => x.1 == n) = false := by
  rw [List.any_eq_false]
  intro x hx
  obtain ⟨e, he, rfl⟩ := List.mem_map.1 hx
  simpa using hL e he
/-- One entry of a list whose numbers differ. -/
theorem abs_set {L : List Ent} {n : Int} {j : Nat} {e e' : Ent} (hj : L[j]? = some e) (he : e.n = n) (hone : ∀ (i : Nat) (a : Ent), L[i]? = some a → a.n = n → i = j) (f : Int × List UInt8 × Nat → Int × List UInt8 × Nat) (hf : f (e.n, e.b, e.s) = (e'.n, e'.b, e'.s)) :
    abs (L.set j e') = (abs L).map (fun x => if x.1 = n then f x else x) := by
  unfold abs
  refine List.ext_getElem? fun i => ?_
  simp only [List.getElem?_map, List.getElem?_set]
  by_cases hij : j = i
  · subst hij
    rw [if_pos rfl, if_pos (List.getElem?_eq_some_iff.1 hj).1, hj]
    simp [he, ← hf]
  · rw [if_neg hij]
    cases hi : L[i]? with
    | none => rfl
    | some a =>
      have : a.n ≠ n := fun h => hij (hone i a hi h).symm
      simp [this]

/-- Behind grown: the segment is there. -/
def Grew (w : World) (t : Nat) (T : Tp) (seg : Int) (x : Ending) (w' : World) : Prop := ∃ (T1 : Tp) (j : Nat) (e1 : Ent), x = .returned (.pointer (some ⟨e1.sb, 0, none⟩)) ∧ TapeAt w' t T1 ∧ T1.L[j]? = some e1 ∧ e1.n = seg ∧ Alike T T1 ∧ used T1.L = used T.L ∧
  Touch (fun k => k ∈ T.blocks t) w w' ∧ (∀ k ∈ T1.blocks t, k ∈ T.blocks t ∨ w.heap.size ≤ k) ∧ ∀ d, appA (abs T.L) seg d = (abs T1.L).map (fun x => if x.1 = seg then (x.1, x.2.1 ++ d, x.2.2) else x)
theorem grown_any {w : World} {t : Nat} {T : Tp} (hT : TapeAt w t T) {seg : Int} (hn : nameB seg = true) (hf : T.L.length < 64 ∨ ∃ e ∈ T.L, e.n = seg) : Calls Tryd.prog 35 #[.pointer (some ⟨t, 0, none⟩), .int .i64 seg] w (Grew w t T seg) := by
  rcases seg_cases T.L seg with ⟨j, e, hj, he⟩ | hL
  · refine (grown_hit hT hn hj he).mono ?_
    rintro x w' ⟨rfl, rfl⟩
    refine ⟨T, j, e, rfl, hT, hj, he, ⟨rfl, rfl, rfl, rfl⟩, rfl, .refl _ _, fun k hk => .inl hk, fun d => ?_⟩
    unfold appA
    rw [if_pos (any_abs hj he)]
  · have h64 : T.L.length < 64 := by
      rcases hf with h | ⟨e, he, hn⟩
      · exact h
      · exact absurd hn (hL e he)
    refine (grown_miss hT hn hL h64).mono ?_
    rintro x w' ⟨T', sb, c, rfl, hL', h1, h2, h3, h4, hT', ht, hb⟩
    have hj : T'.L[T.L.length]? = some (freshE seg sb c) := by rw [hL', List.getElem?_append_right (Nat.le_refl _)]; simp
    refine ⟨T', T.L.length, freshE seg sb c, rfl, hT', hj, rfl, ⟨h1, h2, h3, h4⟩, by rw [hL', used_snoc]; rfl, ht.mono fun k _ hk => ?_, hb, fun d => ?_⟩
    · rcases hk with rfl | hk
      · exact mem_blocks.2 (.inl rfl)
      · exact mem_blocks.2 (.inr (.inl hk))
    · unfold appA
      rw [if_neg (by rw [any_abs_no hL]; decide), hL']
      unfold abs
      rw [List.map_append, List.map_append]
      congr 1
      · rw [List.map_map]
        refine (List.map_congr_left fun e he => ?_).symm
        simp [hL e he]
      · simp [freshE]

/-- What an append leaves. -/
def Apped (w : World) (t : Nat) (T : Tp) (seg : Int) (d : List UInt8) (w' : World) : Prop := ∃ T', TapeAt w' t T' ∧ Alike T T' ∧ abs T'.L = appA (abs T.L) seg d ∧ Touch (fun k => k ∈ T.blocks t) w w' ∧ ∀ k ∈ T'.blocks t, k ∈ T.blocks t ∨ w.heap.size ≤ k

set_option maxRecDepth 100000 in
set_option maxHeartbeats 2000000 in
theorem app_do {w : World} {t : Nat} {T : Tp} {seg : Int} {v : Value} {ls : List (List UInt8)} {ba bs bp : Nat} (hT : TapeAt w t T) (hn : nameB seg = true) (hf : T.L.length < 64 ∨ ∃ e ∈ T.L, e.n = seg) (hu : used T.L + ls.flatten.length ≤ 1048576)
    (h0 : ∀ w', Touch (fun k => k ∈ T.blocks t) w w' → w'.cell? ⟨ba, 0, none⟩ = some (.pointer (some ⟨t, 0, none⟩))) (h1 : ∀ w', Touch (fun k => k ∈ T.blocks t) w w' → w'.cell? ⟨bs, 0, none⟩ = some (.int .i64 seg))
    (h2 : ∀ w', Touch (fun k => k ∈ T.blocks t) w w' → w'.cell? ⟨bp, 0, none⟩ = some v) (hP : ∀ w', Touch (fun k => k ∈ T.blocks t) w w' → PIs w' v ls) :
    Calls Tryd.prog 34 #[.pointer (some ⟨ba, 0, none⟩), .pointer (some ⟨bs, 0, none⟩), .pointer (some ⟨bp, 0, none⟩)] w fun e w' => e = .returned (.tuple #[]) ∧ Apped w t T seg ls.flatten w' := by
  have HG := Lib.hid (grown_any hT hn hf)
  have c0 := h0 w (.refl _ _)
  have c1 := h1 w (.refl _ _)
  have H2 := Lib.hid h2
  have HP := Lib.hid hP
  have HU := Lib.hid hu
  obtain ⟨A, cap, rfl, g1, g2, g3⟩ := hP w (.refl _ _)
  unfold maxLen at g2
  have hl0 : ls.length ≤ 9223372036854775807 := by omega
  clear g3 hT hn hf h0 h1 h2 hP hu
  go_enter Tryd.func34, Tryd.ntmps34
  go_wp2_with fail
  refine (HG.out).mono ?_
  rintro e w1 ⟨T1, j, e1, rfl, hT1, hj, he1, hal, hus, ht1, hb1, habs⟩
  have hc2 := H2.out w1 ht1
  have HT1 := Lib.hid hT1
  have HJ := Lib.hid hj
  have HE1 := Lib.hid he1
  have HAL := Lib.hid hal
  have HUS := Lib.hid hus
  have HTO := Lib.hid ht1
  have HB1 := Lib.hid hb1
  have HABS := Lib.hid habs
  clear hT1 hj he1 hal hus ht1 hb1 habs
  go_wp2_with fail
  go_loopw [11] (fun i wr => ∃ (k : Nat) (vk : Value), k ≤ ls.length ∧ i = .int .i64 k ∧ TapeAt wr t { T1 with L := T1.L.set j { e1 with v := vk, b := e1.b ++ (ls.take k).flatten } } ∧ Touch (fun k => k ∈ T.blocks t) w wr ∧ w1.heap.size ≤ wr.heap.size ∧ (∀ g, vk.ownBlock = some g → g ∈ T.blocks t ∨ w.heap.size ≤ g)) (fun i _ => ls.length - (intOf i).toNat)
  case atStart =>
    refine ⟨0, e1.v, by omega, rfl, ?_, HTO.out, Nat.le_refl _, fun g hg => ?_⟩
    · have : ({ e1 with v := e1.v, b := e1.b ++ (ls.take 0).flatten } : Ent) = e1 := by simp
      rw [this, set_same HJ.out]
      exact HT1.out
    · exact HB1.out g (mem_blocks.2 (.inr (.inr ⟨e1, List.mem_of_getElem? HJ.out, List.mem_cons_of_mem _ (by rw [hg]; exact List.mem_singleton.2 rfl)⟩)))
  case round =>
    obtain ⟨k, vk, hk, rfl, hTk, htk, hsz, hvk⟩ := hrel
    have hjl := (List.getElem?_eq_some_iff.1 HJ.out).1
    have hjk : (T1.L.set j { e1 with v := vk, b := e1.b ++ (ls.take k).flatten })[j]? = some { e1 with v := vk, b := e1.b ++ (ls.take k).flatten } := by rw [List.getElem?_set, if_pos rfl, if_pos hjl]
    by_cases hlt : k < ls.length
    · obtain ⟨A', cap', eA, p1, p2, p3⟩ := HP.out wr htk
      cases eA
      obtain ⟨a, x, rfl, hab, hcx, hB⟩ := p3 k ls[k] (List.getElem?_eq_getElem hlt)
      have hseg := hTk.segs _ (List.mem_of_getElem? hjk)
      have hrow : RowIs wr 1 vk (e1.b ++ (ls.take k).flatten).length (bc (e1.b ++ (ls.take k).flatten)) := hseg.row
      have hcs := cell_of hseg.head 0
      have hown : vk.ownBlock ≠ some e1.sb := hTk.sep.own _ (List.mem_of_getElem? hjk)
      have e2 := flat_take hlt
      have e3 : (ls.take (k + 1)).flatten.length ≤ ls.flatten.length := flat_le (ls := ls) (k + 1)
      rw [e2, List.length_append] at e3
      have huk := used_set (e' := { e1 with v := vk, b := e1.b ++ (ls.take k).flatten }) HJ.out
      simp only [List.length_append] at huk
      have hlen : (e1.b ++ (ls.take k).flatten).length + ls[k].length ≤ 16777216 := by
        have := hTk.used
        simp only at this
        have h9 := used_mem (List.mem_of_getElem? hjk)
        simp only at h9
        have := HU.out
        have := HUS.out
        omega
      have HLEN := Lib.hid hlen
      have HE2 := Lib.hid e2
      have HTK := Lib.hid hTk
      have HTOK := Lib.hid htk
      have HROW := Lib.hid hrow
      have HHEAD := Lib.hid hseg.head
      have HOWN := Lib.hid hown
      have HVK := Lib.hid hvk
      have HJK := Lib.hid hjk
      have HLE := Lib.hid hseg.le
      have HUK : Hid (used (T1.L.set j { e1 with v := vk, b := e1.b ++ (ls.take k).flatten }) + ls[k].length ≤ 1048576) := by
        show _ ≤ _
        have := HU.out
        have := HUS.out
        omega
      have src := Lib.hid hB.src
      obtain ⟨Ax, cx, rfl, _, _, hx3⟩ := hB
      obtain ⟨Av, cv, ev, _, _, _, _, hv3⟩ := hrow.form
      subst ev
      replace hcs : wr.cell? ⟨e1.sb, 0, none⟩ = some (.slice Av (e1.b ++ (ls.take k).flatten).length cv) := hcs
      have hsl := heap_lt HHEAD.out
      have HBE : Hid (e1.b ++ (ls.take (k + 1)).flatten = (e1.b ++ (ls.take k).flatten) ++ ls[k]) := by show _ = _; rw [HE2.out, List.append_assoc]
      clear p3 hx3 hv3 hTk htk hrow hseg hown hvk hjk e2 e3 huk hlen HE2
      generalize ls[k] = l at *
      generalize e1.b ++ (ls.take k).flatten = bk at *
      go_wp2_with (at_builtin; refine wpList_append_row _ _ Tryd.underlying23 info5 rfl (by decide) (by decide) _ rfl _ _ 23 rfl bk.length l.length (bc bk) (bc l) _ _ rfl rfl HROW.out src.out HLEN.out ?_)
      intro v' wa hra hga hva
      have HRA := Lib.hid hra
      have HGA := Lib.hid hga
      have HVA := Lib.hid hva
      have hH2 : wa.heap[e1.sb]? = some (.cells #[.slice Av bk.length cv, .int .i64 (e1.s : Int)] 66 (0, 0)) := (hga.block e1.sb hsl (fun e => HOWN.out e.symm)).trans HHEAD.out
      have hs0 := cell_of hH2 0
      have hfz := free0 hH2 0
      have HH2 := Lib.hid hH2
      obtain ⟨A', c', ev', _, _, _, _, hv3'⟩ := hra.form
      subst ev'
      replace hs0 : wa.cell? ⟨e1.sb, 0, none⟩ = some (.slice Av bk.length cv) := hs0
      clear hra hga hva hH2 hv3'
      go_wp2
      go_roundw
      case measure => simp [intOf]; omega
      case rel =>
        have hne : ∀ g, (Value.slice A' (bk.length + l.length) c').ownBlock = some g → g ≠ e1.sb := by
          intro g hg e
          rcases HVA.out with h | h
          · rw [h, e] at hg; exact HOWN.out hg
          · rw [h] at hg
            have := Option.some.inj hg
            omega
        refine ⟨k + 1, .slice A' (bk.length + l.length) c', by omega, by go_num, ?_, ?_, ?_, ?_⟩
        · have HU2 : used (T1.L.set j { e1 with v := .slice Av bk.length cv, b := bk }) + (bk ++ l).length ≤ 1048576 + bk.length := by rw [List.length_append]; have := HUK.out; omega
          have hsg := HTK.out.seg (w' := wa.setCell ⟨e1.sb, 0, none⟩ (.slice A' (bk.length + l.length) c')) HJK.out (v := .slice A' (bk.length + l.length) c') (b := bk ++ l) (s := e1.s) (by rw [setCell_size]; exact HGA.out.size)
            (fun k' hk' h1 h2 => (Below.heap_setCell _ _ _ _ h1).trans (HGA.out.block k' hk' (fun e => h2 e.symm)))
            (by rw [set_at HH2.out 0]; rfl)
            (by rw [List.length_append, bc_append]; exact HRA.out.keep (Nat.le_of_eq (setCell_size _ _ _).symm) (fun g hg => Below.heap_setCell _ _ _ _ (hne g hg)))
            (by rcases HVA.out with h | h
                · exact .inl h
                · exact .inr (fun g hg => by rw [h] at hg; exact Nat.le_of_eq (Option.some.inj hg)))
            (by have : e1.s ≤ bk.length := HLE.out; rw [List.length_append]; omega)
            HU2
          simp only [List.set_set] at hsg
          rw [HBE.out]
          exact hsg
        · refine (HTOK.out.grown HGA.out (fun g hg hlt => ?_)).setCell ⟨e1.sb, 0, none⟩ (fun hlt => ?_) _
          · rcases HVK.out g hg with h | h
            · exact h
            · omega
          · rcases HB1.out e1.sb (mem_blocks.2 (.inr (.inr ⟨e1, List.mem_of_getElem? HJ.out, List.mem_cons_self ..⟩))) with h | h
            · exact h
            · simp only at hlt; omega
        · rw [setCell_size]; exact Nat.le_trans hsz HGA.out.size
        · intro g hg
          rcases HVA.out with h | h
          · rw [h] at hg; exact HVK.out g hg
          · rw [h] at hg
            have h1 := Option.some.inj hg
            have h2 := HTOK.out.size
            exact .inr (by omega)
    · obtain rfl : k = ls.length := by omega
      rw [List.take_length] at hTk hjk
      have HTK := Lib.hid hTk
      have HTOK := Lib.hid htk
      have HVK := Lib.hid hvk
      obtain ⟨A', cap', eA, p1, p2, p3⟩ := HP.out wr htk
      clear hTk htk hvk hjk p3
      go_wp2
      go_end0
      refine ⟨rfl, _, HTK.out, ⟨HAL.out.room, HAL.out.fused, HAL.out.left, HAL.out.down⟩, ?_, HTOK.out, fun k hk => ?_⟩
      · rw [HABS.out]
        exact abs_set HJ.out HE1.out (fun i a ha hn => HT1.out.one ha HJ.out (hn.trans HE1.out.symm)) (fun x => (x.1, x.2.1 ++ ls.flatten, x.2.2)) rfl
      · rcases mem_blocks.1 hk with h | h | ⟨x, hx, h⟩
        · exact HB1.out k (mem_blocks.2 (.inl h))
        · exact HB1.out k (mem_blocks.2 (.inr (.inl h)))
        · rcases List.mem_or_eq_of_mem_set hx with hx | rfl
          · exact HB1.out k (mem_blocks.2 (.inr (.inr ⟨x, hx, h⟩)))
          · rcases List.mem_cons.1 h with h | h
            · exact HB1.out k (mem_blocks.2 (.inr (.inr ⟨e1, List.mem_of_getElem? HJ.out, by rw [h]; exact List.mem_cons_self ..⟩)))
            · exact HVK.out k (by simpa using h)
end Go.Proofs.YtojmfjmnfpnmmaaDoor
