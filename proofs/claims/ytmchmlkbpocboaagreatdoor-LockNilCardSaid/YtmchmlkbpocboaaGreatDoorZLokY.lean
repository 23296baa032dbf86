/- lock: keys, walked. -/
import Derived.Test.YtmchmlkbpocboaaGreatDoorZLokW
set_option linter.unusedSimpArgs false
set_option linter.unusedVariables false
set_option linter.unnecessarySimpa false
namespace Go.Proofs.YtmchmlkbpocboaaGreatDoor
open Go.RowKit Go.Sort Go.Shelf
open Go.Maps (Keyed)

/-- A string is compared with another one. -/
theorem bytes_beq (a b : KeyT) : (decide (a = b)) = ((⟨a.toArray⟩ : ByteArray).toList == (⟨b.toArray⟩ : ByteArray).toList) := by
  rw [ByteArray.toList_eq, ByteArray.toList_eq]
  by_cases h : a = b <;> simp [h]
set_option maxRecDepth 100000 in
set_option maxHeartbeats 4000000 in
theorem keys_any {w : World} {tb gl gw : Nat} {L : List Le} {WT : List Wt} {ro : Nat → Nat} (h : TbAt w tb gl gw L WT ro) (hf : Few 10000 L WT) (who : Int) (hw : InR64 who) : Calls Tryz.prog 39 #[.pointer (some ⟨tb, 0, none⟩), .int .i64 who] w (KeysQ w (tbOf L WT) who) := by
  obtain ⟨o, ho⟩ : ∃ o, waitP (tbOf L WT) who = o := ⟨_, rfl⟩
  obtain ⟨wk, wm, wb, hV⟩ : ∃ (wk : KeyT) (wm wb : Bool), waitV o = .tuple #[.agg #[strV wk, .bool wm], .bool wb] ∧ ∀ x, hitK who o x = (decide (who ∈ x.l.held) || (wb && decide (x.key = wk))) := by
    cases o with
    | none => exact ⟨[], false, false, rfl, fun x => by simp [hitK]⟩
    | some v => exact ⟨v.1, v.2, true, rfl, fun x => by simp [hitK]⟩
  obtain ⟨hV, hhit⟩ := hV
  have t1 : w.cell? ⟨tb, 1, none⟩ = some (.map (some gw)) := cell_of h.head 1
  obtain ⟨MW, cW, hmw, hmp⟩ := h.waits
  have hlook : (Instr.lookup 62 (.map (some gw)) (.int .i64 who) true).run Tryz.prog w = .ok (.tuple #[.agg #[strV wk, .bool wm], .bool wb]) w := by
    have := waits_look hmw hmp L hw
    rw [ho] at this
    rw [← hV]
    cases o <;> exact this
  have hbz := below_new (w := w) (.cells #[strV wk, .bool wm] 43)
  have hxz := alloc_at w (.cells #[strV wk, .bool wm] 43)
  have h1 := h.below hbz
  obtain ⟨w1, hw1⟩ : ∃ w1, w1 = w.alloc (.cells #[strV wk, .bool wm] 43) := ⟨_, rfl⟩
  rw [← hw1] at hbz hxz h1
  obtain ⟨M, c, hm, hmL⟩ := h.lanes
  have HT := Lib.hid h
  have t0 : w1.cell? ⟨tb, 0, none⟩ = some (.map (some gl)) := cell_of h1.head 0
  rw [hw1] at t0
  have HW1 := Lib.hid hw1
  have HB1 := Lib.hid hbz
  have HX1 := Lib.hid hxz
  have HT1 := Lib.hid h1
  have HM := Lib.hid hm
  have HML := Lib.hid hmL
  have HO := Lib.hid ho
  have HHIT := Lib.hid hhit
  have HF := Lib.hid hf
  have HWH := Lib.hid hw
  have HTS := Lib.hid (heap_lt hxz)
  clear h hmw hmp hbz hxz h1 hm hmL ho hhit hf hw hw1 hV
  obtain ⟨K, hK⟩ : ∃ K, (⟨wk.toArray⟩ : ByteArray) = K := ⟨_, rfl⟩
  unfold strV at hlook HX1 t0 HW1
  rw [hK] at hlook HX1 t0 HW1
  have HK := Lib.hid hK
  clear hK
  go_enter Tryz.func39, Tryz.ntmps39
  go_wp2_with (at_range; rw [← HW1.out]; refine wpList_map_start _ rfl _ 61 rfl Tryz.underlying61 (HM.out.keep (HB1.out.block _ HM.out.lt)) rfl ?_; intro w2 hit2 hb2 hz2)
  have HI2 := Lib.hid hit2
  have HB2 := Lib.hid (HB1.out.trans (hb2.mono HB1.out.size))
  have HX2 := Lib.hid ((hb2.block _ (heap_lt HX1.out)).trans HX1.out)
  have HIT : Hid (w.heap.size < w1.heap.size ∧ w1.heap.size < w2.heap.size) := Lib.hid ⟨heap_lt HX1.out, by rw [hz2]; omega⟩
  have HGL : Hid (gl < w.heap.size) := Lib.hid HM.out.lt
  clear hit2 hb2 hz2 t0 t1 hlook HTS
  generalize hit : w1.heap.size = it at *
  clear hit
  try go_frame
  go_loopg [7] (left M #[]) (fun g s wr => ∃ (seen : Array Nat) (P : List Le) (A : Option Addr) (c' : Nat) (ks : List KeyT), g = left M seen ∧ s = .slice A ks.length c' ∧ RowIs wr 1 (.slice A ks.length c') ks.length (strs ks) ∧ (∀ g, (Value.slice A ks.length c').ownBlock = some g → it < g) ∧ Came M L seen P ∧ ks = (P.filter (hitK who o)).map Le.key ∧ IterAt wr it (some gl) c seen ∧ Below w.heap.size w wr ∧ wr.heap[w.heap.size]? = some (.cells #[.string K, .bool wm] 43 (0, 0)))
  case atStart => exact ⟨#[], [], none, 0, [], rfl, rfl, RowIs.nil _ _, (fun g e => by cases e), Came.start M L, rfl, HI2.out, HB2.out, HX2.out⟩
  case round =>
    obtain ⟨seen, P, A3, c3, ks, rfl, rfl, hrw, hro, hcame, hks, hit3, hb3, hx3⟩ := hrel
    obtain ⟨wi, rfl⟩ : ∃ wi, wi = wr := ⟨_, rfl⟩
    have HR3 := Lib.hid (And.intro hrw hro)
    have HC3 := Lib.hid hcame
    have HKS := Lib.hid hks.symm
    have HI3 := Lib.hid hit3
    have HB3 := Lib.hid hb3
    have HX3 := Lib.hid hx3
    have HLEN : Hid (ks.length ≤ 16777000) := Lib.hid (by
      rw [hks, List.length_map]
      have h1 := List.length_filter_le (hitK who o) P
      have h2 := hcame.sub.1
      have h3 := HF.out.1
      omega)
    clear hrw hro hcame hks hit3 hb3 hx3 HI2 HB2 HX2
    go_wp2_with (at_next; refine wpList_map_step _ rfl _ rfl (HM.out.keep (HB3.out.block _ HM.out.lt)) HI3.out (by have := HGL.out; have := HIT.out; omega) rfl ?_ ?_)
    · intro hall
      have hp := HC3.out.done (pair_len HML.out) hall
      have HKO := Lib.hid (keys_of (WT := WT) (who := who) hp HT1.out.nodup)
      rw [HO.out, HKS.out] at HKO
      have HKL : Hid (ks.length ≤ (tbOf L WT).lanes.length) := Lib.hid (by
        rw [← HKS.out, List.length_map]
        have h1 := List.length_filter_le (hitK who o) P
        have h2 := HC3.out.sub.1
        unfold tbOf
        simp only [List.length_map]
        omega)
      have HSO := Lib.hid (sortS_row HR3.out.1 (by have := HLEN.out; omega))
      clear hall hp
      go_wp2_with fail
      refine (HSO.out).mono ?_
      rintro e w4 ⟨rfl, hr4, ht4⟩
      have HF4 : Hid (KeysQ w (tbOf L WT) who (.returned (.slice A3 ks.length c3)) w4) := Lib.hid (by
        refine ⟨A3, c3, sortedK ks, by rw [sortedK_len], by rw [sortedK_len]; exact hr4, fun g hg => ?_, HKO.out, HB3.out.trans (ht4.below (fun i hi => by have h7 := HR3.out.2 _ hi; have h8 := HIT.out; omega) HB3.out.size), by rw [sortedK_len]; exact HKL.out⟩
        rw [sortedK_len] at hg
        have h7 := HR3.out.2 g hg
        have h8 := HIT.out
        omega)
      clear hr4 ht4
      go_wp2_with fail
      refine bodyPost_ret (v := .slice A3 ks.length c3) (by simp [results, Tryz.results39, go_sem]) rfl HF4.out
    · intro m hmm hs w4 hit4 ht4 hz4 hen
      obtain ⟨j, x, hj, hx, hmk, hmv⟩ := pair_idx HML.out hmm
      have HST := Lib.hid (HC3.out.step HM.out.apart hj hx hs)
      have hb4 : Below w.heap.size w w4 := HB3.out.trans (ht4.below (fun i hi => by have := HIT.out; omega) HB3.out.size)
      have HX4 := Lib.hid ((ht4.block _ (heap_lt HX3.out) (fun e => by have := HIT.out; omega)).trans HX3.out)
      have HR4 := Lib.hid (And.intro (HR3.out.1.iter HI3.out ht4) HR3.out.2)
      have HI4 := Lib.hid hit4
      have HB4 := Lib.hid hb4
      have HHO := Lib.hid (holds_any (((HT.out.ln x (List.mem_of_getElem? hx)).below (hb4.mono (Nat.le_refl _)))) HWH.out)
      have HHX := Lib.hid (HHIT.out x)
      obtain ⟨XK, hXK⟩ : ∃ XK, (⟨x.key.toArray⟩ : ByteArray) = XK := ⟨_, rfl⟩
      have HEQ : Hid (decide (x.key = wk) = (XK.toList == K.toList)) := Lib.hid (by rw [bytes_beq, hXK, HK.out])
      have HXK := Lib.hid hXK
      replace hen : (Instr.entry (.pointer (some ⟨it, 0, none⟩))).run Tryz.prog w4 = .ok (.tuple #[.string XK, .pointer (some ⟨x.b, 0, none⟩)]) w4 := by
        rw [hmk, hmv] at hen
        rw [← hXK]
        exact hen
      rw [hmk, hmv]
      obtain ⟨hv, hhv⟩ : ∃ hv, decide (who ∈ x.l.held) = hv := ⟨_, rfl⟩
      rw [hhv] at HHO HHX
      clear hmm hs hit4 ht4 hz4 hj hx hmk hmv hb4 hhv hXK
      go_wp2_with fail
      refine (HHO.out).mono ?_
      rintro e w5 ⟨rfl, hb5⟩
      have HB5 := Lib.hid (HB4.out.trans (hb5.mono HB4.out.size))
      have HR5 := Lib.hid (And.intro (HR4.out.1.below hb5) HR4.out.2)
      have HI5 := Lib.hid (IterAt.keep _ HI4.out (hb5.block it HI4.out.lt))
      have HX5 := Lib.hid ((hb5.block _ (heap_lt HX4.out)).trans HX4.out)
      have k5 : w5.cell? ⟨w.heap.size, 0, none⟩ = some (.string K) := cell_of HX5.out 0
      clear hb5
      cases hv with
      | true =>
        have HHV : Hid (hitK who o x = true) := Lib.hid (by rw [HHX.out]; rfl)
        obtain ⟨A6, c6, w6, hr6, hrow6, ht6, ho6⟩ := app_str x.key 87 HR5.out.1 HLEN.out
        have hXE : (strV x.key) = .string XK := by unfold strV; rw [HXK.out]
        rw [hXE] at hr6
        have HRUN := Lib.hid hr6
        have HR6 : Hid (RowIs w6 1 (.slice A6 (ks.length + 1) c6) (ks.length + 1) (strs (ks ++ [x.key])) ∧ ∀ g, (Value.slice A6 (ks.length + 1) c6).ownBlock = some g → it < g) := Lib.hid ⟨hrow6, fun g hg => (ho6 g hg).elim (HR5.out.2 g) (fun e => Nat.lt_of_lt_of_le HI5.out.lt e)⟩
        have HI6 := Lib.hid (IterAt.keep _ HI5.out (ht6.block it HI5.out.lt (fun e => by have h7 := HR5.out.2 _ e; omega)))
        have HB6 := Lib.hid (HB5.out.trans (ht6.below (fun i hi => by have h7 := HR5.out.2 _ hi; have h8 := HIT.out; omega) HB5.out.size))
        have HX6 := Lib.hid ((ht6.block _ (heap_lt HX5.out) (fun e => by have h7 := HR5.out.2 _ e; have h8 := HIT.out; omega)).trans HX5.out)
        clear hr6 hrow6 ht6 ho6 hXE
        go_wp2_with (at_builtin; refine wpList_app_run rfl _ _ _ _ rfl rfl rfl HRUN.out ?_)
        go_roundg (left M (seen.push m.born))
        case measure => have := HST.out.2; omega
        case rel => exact ⟨seen.push m.born, P ++ [x], A6, c6, ks ++ [x.key], rfl, by simp, by simpa using HR6.out.1, by simpa using HR6.out.2, HST.out.1, by rw [List.filter_append, List.map_append, HKS.out]; simp [HHV.out], HI6.out, HB6.out, HX6.out⟩
      | false =>
        cases wb with
        | false =>
          have HHV : Hid (hitK who o x = false) := Lib.hid (by rw [HHX.out]; rfl)
          go_wp2_with fail
          go_roundg (left M (seen.push m.born))
          case measure => have := HST.out.2; omega
          case rel => exact ⟨seen.push m.born, P ++ [x], A3, c3, ks, rfl, rfl, HR5.out.1, HR5.out.2, HST.out.1, by rw [List.filter_append, List.map_append, HKS.out]; simp [HHV.out], HI5.out, HB5.out, HX5.out⟩
        | true =>
          obtain ⟨eb, heb⟩ : ∃ eb, (XK.toList == K.toList) = eb := ⟨_, rfl⟩
          have HHV : Hid (hitK who o x = eb) := Lib.hid (by rw [HHX.out, HEQ.out, heb]; simp)
          cases eb with
          | false =>
            go_wp2_with fail
            go_roundg (left M (seen.push m.born))
            case measure => have := HST.out.2; omega
            case rel => exact ⟨seen.push m.born, P ++ [x], A3, c3, ks, rfl, rfl, HR5.out.1, HR5.out.2, HST.out.1, by rw [List.filter_append, List.map_append, HKS.out]; simp [HHV.out], HI5.out, HB5.out, HX5.out⟩
          | true =>
            obtain ⟨A6, c6, w6, hr6, hrow6, ht6, ho6⟩ := app_str x.key 87 HR5.out.1 HLEN.out
            have hXE : (strV x.key) = .string XK := by unfold strV; rw [HXK.out]
            rw [hXE] at hr6
            have HRUN := Lib.hid hr6
            have HR6 : Hid (RowIs w6 1 (.slice A6 (ks.length + 1) c6) (ks.length + 1) (strs (ks ++ [x.key])) ∧ ∀ g, (Value.slice A6 (ks.length + 1) c6).ownBlock = some g → it < g) := Lib.hid ⟨hrow6, fun g hg => (ho6 g hg).elim (HR5.out.2 g) (fun e => Nat.lt_of_lt_of_le HI5.out.lt e)⟩
            have HI6 := Lib.hid (IterAt.keep _ HI5.out (ht6.block it HI5.out.lt (fun e => by have h7 := HR5.out.2 _ e; omega)))
            have HB6 := Lib.hid (HB5.out.trans (ht6.below (fun i hi => by have h7 := HR5.out.2 _ hi; have h8 := HIT.out; omega) HB5.out.size))
            have HX6 := Lib.hid ((ht6.block _ (heap_lt HX5.out) (fun e => by have h7 := HR5.out.2 _ e; have h8 := HIT.out; omega)).trans HX5.out)
            clear hr6 hrow6 ht6 ho6 hXE
            go_wp2_with (at_builtin; refine wpList_app_run rfl _ _ _ _ rfl rfl rfl HRUN.out ?_)
            go_roundg (left M (seen.push m.born))
            case measure => have := HST.out.2; omega
            case rel => exact ⟨seen.push m.born, P ++ [x], A6, c6, ks ++ [x.key], rfl, by simp, by simpa using HR6.out.1, by simpa using HR6.out.2, HST.out.1, by rw [List.filter_append, List.map_append, HKS.out]; simp [HHV.out], HI6.out, HB6.out, HX6.out⟩
end Go.Proofs.YtmchmlkbpocboaaGreatDoor
