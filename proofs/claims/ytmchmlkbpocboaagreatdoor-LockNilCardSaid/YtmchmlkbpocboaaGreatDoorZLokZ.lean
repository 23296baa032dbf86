/- lock: Holds. -/
import Derived.Test.YtmchmlkbpocboaaGreatDoorZLokY
set_option linter.unusedSimpArgs false
set_option linter.unusedVariables false
set_option linter.unnecessarySimpa false
namespace Go.Proofs.YtmchmlkbpocboaaGreatDoor
open Go.RowKit Go.Sort Go.Shelf
open Go.Maps (Keyed)

def hdC (E : List (KeyT × Bool)) : List Value := E.flatMap fun e => [strV e.1, .bool e.2]
theorem hdC_app (a b : List (KeyT × Bool)) : hdC (a ++ b) = hdC a ++ hdC b := by unfold hdC; rw [List.flatMap_append]
theorem hdC_len (E : List (KeyT × Bool)) : (hdC E).length = E.length * 2 := by
  unfold hdC
  induction E with
  | nil => rfl
  | cons c l ih =>
    rw [List.flatMap_cons, List.length_append, ih]
    show 2 + l.length * 2 = (l.length + 1) * 2
    omega
theorem hdC_at : ∀ {l : List (KeyT × Bool)} {i : Nat} {c : KeyT × Bool}, l[i]? = some c → (hdC l)[i * 2]? = some (strV c.1) ∧ (hdC l)[i * 2 + 1]? = some (.bool c.2)
  | [], _, _, h => by cases h
  | d :: l, 0, c, h => by cases h; exact ⟨rfl, rfl⟩
  | d :: l, i + 1, c, h => by
    obtain ⟨h1, h2⟩ := hdC_at (l := l) (i := i) (c := c) h
    have e : hdC (d :: l) = [strV d.1, .bool d.2] ++ hdC l := rfl
    rw [e]
    refine ⟨?_, ?_⟩
    · rw [List.getElem?_append_right (by simp; omega), ← h1]; congr 1; simp; omega
    · rw [List.getElem?_append_right (by simp; omega), ← h2]; congr 1; simp; omega
theorem infoH : (Tryz.prog.info? 43).map (fun i => (i.zero, i.size, i.bytes)) = some (some emptyV, 2, 24) := by kernel_rfl
/-- A lock that is held is put at the end of a row. -/
theorem app_hold {w : World} {A : Option Addr} {c : Nat} {l : List (KeyT × Bool)} (x : KeyT × Bool) (ty : TypeId) (h : RowIs w 2 (.slice A l.length c) l.length (hdC l)) (hl : l.length ≤ 16777000) : ∃ A' c' w', (Builtin.append_ #[40, 40] ty #[.slice A l.length c, .slice (some ⟨w.heap.size, 0, none⟩) 1 1]).run Tryz.prog (w.alloc (.cells #[strV x.1, .bool x.2] 43)) = .ok (.slice A' (l.length + 1) c') w' ∧ RowIs w' 2 (.slice A' (l.length + 1) c') (l.length + 1) (hdC (l ++ [x])) ∧ Touch (fun k => (Value.slice A l.length c).ownBlock = some k) w w' ∧ (∀ k, (Value.slice A' (l.length + 1) c').ownBlock = some k → (Value.slice A l.length c).ownBlock = some k ∨ w.heap.size ≤ k) := by
  have hb := below_new (w := w) (.cells #[strV x.1, .bool x.2] 43)
  have hx := alloc_at w (.cells #[strV x.1, .bool x.2] 43)
  have hsrc : Src Tryz.prog 2 40 (.slice (some ⟨w.heap.size, 0, none⟩) 1 1) 1 [strV x.1, .bool x.2] (w.alloc (.cells #[strV x.1, .bool x.2] 43)) :=
    Src.ofSlice _ Tryz.underlying40 ⟨w.heap.size, 0, none⟩ 1 1 _ rfl (fun j u hu => by rw [add0, cell_of hx j]; simpa using hu) (fun u hu => by
      simp only [List.mem_cons, List.not_mem_nil, or_false] at hu
      rcases hu with rfl | rfl <;> rfl)
  obtain ⟨v', w', hr, h2, h3, h4⟩ := run_append_row (w.alloc (.cells #[strV x.1, .bool x.2] 43)) 40 43 ty 40 Tryz.underlying40 infoH rfl (by omega) (by omega) (.slice A l.length c) l.length 1 (hdC l) [strV x.1, .bool x.2] _ (h.below hb) hsrc (by omega)
  obtain ⟨A', c', rfl, _⟩ := id h2.form
  refine ⟨A', c', w', hr, by rw [hdC_app]; exact h2, (Touch.of_below hb).grown h3 (fun k hk _ => hk), fun k hk => ?_⟩
  rcases h4 with e | e
  · exact .inl (e ▸ hk)
  · right
    rw [e] at hk
    have := Option.some.inj hk
    rw [asz] at this
    omega
/-- What one holds, of these keys. -/
def heldOf (T : Tb) (who : Int) (ks : List KeyT) : List (KeyT × Bool) := (ks.filter fun k => decide (who ∈ (laneD T k).held)).map fun k => (k, (laneD T k).mine)
theorem heldOf_snoc (T : Tb) (who : Int) (ks : List KeyT) (k : KeyT) : heldOf T who (ks ++ [k]) = heldOf T who ks ++ if who ∈ (laneD T k).held then [(k, (laneD T k).mine)] else [] := by
  unfold heldOf
  rw [List.filter_append, List.map_append]
  congr 1
  by_cases h : who ∈ (laneD T k).held <;> simp [h]
def HoldsQ (w : World) (T : Tb) (who : Int) (e : Ending) (w' : World) : Prop := ∃ A c ks, KeysOf T who ks ∧ e = .returned (.slice A (heldOf T who ks).length c) ∧ RowIs w' 2 (.slice A (heldOf T who ks).length c) (heldOf T who ks).length (hdC (heldOf T who ks)) ∧ (∀ g, (Value.slice A (heldOf T who ks).length c).ownBlock = some g → w.heap.size ≤ g) ∧ Below w.heap.size w w'
set_option maxRecDepth 100000 in
set_option maxHeartbeats 4000000 in
theorem Holds_any {w : World} {tb gl gw : Nat} {L : List Le} {WT : List Wt} {ro : Nat → Nat} (h : TbAt w tb gl gw L WT ro) (hf : Few 10000 L WT) (who : Int) (hw : InR64 who) : Calls Tryz.prog 16 #[.pointer (some ⟨tb, 0, none⟩), .int .i64 who] w (HoldsQ w (tbOf L WT) who) := by
  have HKE := Lib.hid (keys_any h hf who hw)
  have HT := Lib.hid h
  have HF := Lib.hid hf
  have HWH := Lib.hid hw
  clear h hf hw
  go_enter Tryz.func16, Tryz.ntmps16
  go_wp2_with fail
  refine (HKE.out).mono ?_
  rintro e w1 ⟨Ak, ck, ks, rfl, hrk, hok, hks, hb1, hkl⟩
  obtain ⟨T, hT⟩ : ∃ T, tbOf L WT = T := ⟨_, rfl⟩
  rw [hT] at hks hkl ⊢
  have HTT := Lib.hid hT
  have HRK := Lib.hid hrk
  have HB1 := Lib.hid hb1
  have HKS := Lib.hid hks
  have hkn : ks.length ≤ 10000 := by
    have h1 := HF.out.1
    rw [← hT] at hkl
    unfold tbOf at hkl
    simp only [List.length_map] at hkl
    omega
  have hkI : (ks.length : Int) ≤ 10000 := by omega
  obtain ⟨_, _, ekk, hk1, hk2, _, _, hkc⟩ := id hrk.form
  cases ekk
  have HKC := Lib.hid hkc
  have HKN := Lib.hid hkn
  clear hks hT hrk hb1 hkl hkc hkn hok
  go_wp2_with fail
  go_loopw [5, 13] (fun s i wr => ∃ (k : Nat) (A : Option Addr) (c : Nat) (hs : List (KeyT × Bool)), k ≤ ks.length ∧ i = .int .i64 k ∧ s = .slice A hs.length c ∧ hs = heldOf T who (ks.take k) ∧ hs.length ≤ k ∧ RowIs wr 2 (.slice A hs.length c) hs.length (hdC hs) ∧ (∀ g, (Value.slice A hs.length c).ownBlock = some g → w1.heap.size ≤ g) ∧ Below w1.heap.size w1 wr) (fun _ i _ => ks.length - (intOf i).toNat)
  case atStart => exact ⟨0, none, 0, [], Nat.zero_le _, rfl, rfl, rfl, Nat.le_refl _, RowIs.nil _ _, (fun g e => by cases e), Below.refl _ _⟩
  case round =>
    obtain ⟨k, A, c, hs, hk, rfl, rfl, hhs, hhl, hrw, hro, hbw⟩ := hrel
    obtain ⟨wi, rfl⟩ : ∃ wi, wi = wr := ⟨_, rfl⟩
    have HHS := Lib.hid hhs
    have HRW := Lib.hid (And.intro hrw hro)
    have HBW := Lib.hid hbw
    have HHL := Lib.hid hhl
    by_cases hlt : k < ks.length
    · have hx : ks[k]? = some ks[k] := List.getElem?_eq_getElem hlt
      have HTK : Hid (ks.take (k + 1) = ks.take k ++ [ks[k]]) := Lib.hid (List.take_succ_eq_append_getElem hlt)
      generalize ks[k] = key at hx HTK
      obtain ⟨gk, rfl, kc⟩ := HKC.out _ _ (strs_at hx)
      have q0 : wi.cell? ⟨gk, k, none⟩ = some (strV key) := (hbw.cell (p := ⟨gk, k, none⟩) (heap_lt' kc)).trans kc
      have hbf := HB1.out.trans (hbw.mono HB1.out.size)
      have htb := HT.out.below hbf
      have t0 : wi.cell? ⟨tb, 0, none⟩ = some (.map (some gl)) := cell_of htb.head 0
      obtain ⟨M, cM, hm, hmL⟩ := htb.lanes
      obtain ⟨l, hl, _⟩ := (HKS.out.2 key).1 (List.mem_of_getElem? hx)
      rw [← HTT.out, laneP_tb] at hl
      obtain ⟨x, hfx, hxl⟩ : ∃ x, L.find? (fun e => e.key == key) = some x ∧ x.l = l := by
        cases hfx : L.find? (fun e => e.key == key) with
        | none => rw [hfx] at hl; cases hl
        | some x => rw [hfx] at hl; exact ⟨x, rfl, by simpa using hl⟩
      have hxm := List.mem_of_find?_eq_some hfx
      have hxk := List.find?_some hfx
      rw [beq_iff_eq] at hxk
      have hlook := lanes_look hm hmL (k := key) (by rw [← hxk]; exact HT.out.keys x hxm)
      rw [hfx] at hlook
      have HLD : Hid (laneD T key = x.l) := Lib.hid (by
        unfold laneD
        rw [← HTT.out, laneP_tb, hfx]; rfl)
      have hln := htb.ln x hxm
      have HLN := Lib.hid hln
      have HHO := Lib.hid (holds_any hln HWH.out)
      obtain ⟨K, hK⟩ : ∃ K, (⟨key.toArray⟩ : ByteArray) = K := ⟨_, rfl⟩
      replace hlook : (Instr.lookup 61 (.map (some gl)) (.string K) false).run Tryz.prog wi = .ok (.pointer (some ⟨x.b, 0, none⟩)) wi := by rw [← hK]; exact hlook
      replace q0 : wi.cell? ⟨gk, k, none⟩ = some (.string K) := by rw [← hK]; exact q0
      have HK := Lib.hid hK
      obtain ⟨hv, hhv⟩ : ∃ hv, decide (who ∈ x.l.held) = hv := ⟨_, rfl⟩
      rw [hhv] at HHO
      have HHV := Lib.hid hhv
      have hi : (k : Int) < (ks.length : Int) := by omega
      have HLT := Lib.hid hlt
      have hkk : (k : Int) ≤ 10000 := by omega
      clear hx kc hbf htb hm hmL hl hxl hfx hxm hxk hln hhv hhs hhl hrw hro hbw hlt hk hK
      go_wp2_with fail
      refine (HHO.out).mono ?_
      rintro e w3 ⟨rfl, hb3⟩
      have HB3 := Lib.hid (HBW.out.trans (hb3.mono HBW.out.size))
      have HR3 := Lib.hid (And.intro (HRW.out.1.below hb3) HRW.out.2)
      have hln3 := HLN.out.below hb3
      have m1 : w3.cell? ⟨x.b, 1, none⟩ = some (.bool x.l.mine) := cell_of hln3.head 1
      clear hb3 hln3 q0 t0 hlook
      cases hv with
      | false =>
        have HS2 : Hid (hs = heldOf T who (ks.take (k + 1))) := Lib.hid (by
          rw [HTK.out, heldOf_snoc, HLD.out, if_neg (by have := HHV.out; simpa using this), List.append_nil, ← HHS.out])
        go_wp2_with fail
        go_roundw
        case rel => exact ⟨k + 1, A, c, hs, HLT.out, by go_num, rfl, HS2.out, by have := HHL.out; omega, HR3.out.1, HR3.out.2, HB3.out⟩
        case measure => have := HLT.out; simp [intOf]; omega
      | true =>
        have HS2 : Hid (hs ++ [(key, x.l.mine)] = heldOf T who (ks.take (k + 1))) := Lib.hid (by
          rw [HTK.out, heldOf_snoc, HLD.out, if_pos (by have := HHV.out; simpa using this), ← HHS.out])
        obtain ⟨A5, c5, w5, hr5, hrow5, ht5, ho5⟩ := app_hold (key, x.l.mine) 40 HR3.out.1 (by have := HHL.out; have := HLT.out; have := HKN.out; omega)
        have hXE : (strV (key, x.l.mine).1) = .string K := by show Value.string ⟨key.toArray⟩ = _; rw [HK.out]
        rw [hXE] at hr5
        have HRUN := Lib.hid hr5
        have HR5 := Lib.hid hrow5
        have HO5 : Hid (∀ g, (Value.slice A5 (hs.length + 1) c5).ownBlock = some g → w1.heap.size ≤ g) := Lib.hid (fun g hg => (ho5 g hg).elim (HR3.out.2 g) (fun e => Nat.le_trans HB3.out.size e))
        have HB5 := Lib.hid (HB3.out.trans (ht5.below (fun i hi => HR3.out.2 i hi) HB3.out.size))
        clear hr5 hrow5 ht5 ho5 hXE
        go_wp2_with (at_builtin; refine wpList_app_run rfl _ _ _ _ rfl rfl rfl HRUN.out ?_)
        go_roundw
        case rel => exact ⟨k + 1, A5, c5, hs ++ [(key, x.l.mine)], HLT.out, by go_num, by simp, HS2.out, by have := HHL.out; simp; omega, by simpa using HR5.out, by simpa using HO5.out, HB5.out⟩
        case measure => have := HLT.out; simp [intOf]; omega
    · obtain rfl : k = ks.length := by omega
      have hn : ¬ (ks.length : Int) < (ks.length : Int) := by omega
      have HF2 : Hid (HoldsQ w T who (.returned (.slice A hs.length c)) wi) := Lib.hid (by
        rw [List.take_length] at hhs
        subst hhs
        exact ⟨A, c, ks, HKS.out, rfl, hrw, fun g hg => Nat.le_trans HB1.out.size (hro g hg), HB1.out.trans (hbw.mono HB1.out.size)⟩)
      clear hhs hhl hrw hro hbw hk hlt HHS
      go_wp2_with fail
      refine bodyPost_ret (v := .slice A hs.length c) (by simp [results, Tryz.results16, go_sem]) rfl (by rw [HTT.out]; exact HF2.out)
end Go.Proofs.YtmchmlkbpocboaaGreatDoor
