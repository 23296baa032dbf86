/- Write, whatever is written. -/
import Derived.Test.YtmaokoekbjjgfaaDoorZChbA
set_option linter.unusedSimpArgs false
set_option linter.unusedVariables false
set_option linter.unnecessarySimpa false
namespace Go.Proofs.YtmaokoekbjjgfaaDoor
open Go.RowKit Go.Shelf

theorem write_all {w : World} {c : Nat} {v : Value} {L : List Ver} {t n : Int} {th : Bool} (h : Ch w c v L) (ht : InR64 t) :
    Calls Tryd.prog 31 #[.pointer (some ⟨c, 0, none⟩), .agg #[.int .i64 t, .int .i64 (numT n th), .bool th, .int .i64 0, .bool false]] w (WritePost w c v L t n th) := by
  have err : ∀ (k : Lk) (r : List Lk) (x : Int), findE L t = k :: r → NumOk (k :: r) → (k :: r).length < 1000 → codeOf (k :: r) = x → writeP L t n th = (L, x) →
      Calls Tryd.prog 31 #[.pointer (some ⟨c, 0, none⟩), .agg #[.int .i64 t, .int .i64 (numT n th), .bool th, .int .i64 0, .bool false]] w (WritePost w c v L t n th) := fun k r x hf h1 h2 h3 h4 => by
    refine (write_err h.toChAt h.ris h.few ht hf).mono ?_
    rintro e w' ⟨ev, rfl, he, hb⟩
    exact ⟨v, ev, _, rfl, he, h1, h2, by rw [h4, h3], by rw [h4]; exact h.toChAt.below hb, .of_below hb, .inl rfl⟩
  by_cases ho : okT t = false
  · exact err (.bnd 1073741824 t) [.num 2] 2 (by unfold findE; rw [if_pos ho]) (by intro e hm; simp at hm; omega) (by simp) rfl (by unfold writeP; rw [if_pos ho])
  · have ho' : okT t = true := by simpa using ho
    by_cases hz : cnt L t = 0
    · exact err (.plc t) [.num 22] 22 (by unfold findE; rw [if_neg ho, if_pos hz]) (by intro e hm; simp at hm; omega) (by simp) rfl (by unfold writeP; rw [if_neg ho, if_pos hz])
    · obtain ⟨k, hk⟩ : ∃ k, cnt L t = k + 1 := ⟨cnt L t - 1, by omega⟩
      have hcl := cnt_le L t
      have hu : L[k]? = some (L[k]'(by omega)) := List.getElem?_eq_getElem _
      generalize L[k]'(by omega) = u at hu
      have hu1 : L[cnt L t - 1]? = some u := by rw [hk]; exact hu
      have late : t < u.read ∨ (u.at_ = t ∧ u.opn = false) → Calls Tryd.prog 31 #[.pointer (some ⟨c, 0, none⟩), .agg #[.int .i64 t, .int .i64 (numT n th), .bool th, .int .i64 0, .bool false]] w (WritePost w c v L t n th) := fun hl => by
        have hr : writeP L t n th = (L, 22) := by
          unfold writeP
          rw [if_neg ho, if_neg hz, hu1]
          simp only
          rw [if_pos hl]
        have fin : ∀ (e : Ending) (w' : World), (∃ ev, e = .returned ev ∧ ErrIs w' [.plc u.at_, .bnd t u.read, .num 22] ev ∧ Below w.heap.size w w') → WritePost w c v L t n th e w' := by
          rintro e w' ⟨ev, rfl, he, hb⟩
          exact ⟨v, ev, _, rfl, he, (by intro e hm; simp at hm; omega), by simp, by rw [hr]; rfl, by rw [hr]; exact h.toChAt.below hb, .of_below hb, .inl rfl⟩
        by_cases h1 : t < u.read
        · exact (write_lateR h.toChAt h.ris h.few ht ho' hk hu h1).mono fin
        · exact (write_lateO h.toChAt h.ris h.few ht ho' hk hu h1 (hl.resolve_left h1).1 (hl.resolve_left h1).2).mono fin
      by_cases hl : t < u.read ∨ (u.at_ = t ∧ u.opn = false)
      · exact late hl
      · have h1 : ¬ t < u.read := fun e => hl (.inl e)
        by_cases hut : u.at_ = t
        · have hop : u.opn = true := by
            cases e : u.opn
            · exact (hl (.inr ⟨hut, e⟩)).elim
            · rfl
          have hr : writeP L t n th = (L.set k { u with n := numT n th, there := th }, 0) := by
            unfold writeP
            rw [if_neg ho, if_neg hz, hu1]
            simp only
            rw [if_neg hl, if_pos hut, hk]
            rfl
          refine (write_own h.toChAt h.ris h.few ht ho' hk hu h1 hut hop).mono ?_
          rintro e w' ⟨rfl, hc, hT⟩
          exact ⟨v, _, [], rfl, rfl, (fun e hm => by simp at hm), by simp, by rw [hr]; rfl, by rw [hr]; exact hc, hT.mono (fun i _ e => .inr e), .inl rfl⟩
        · have hr : writeP L t n th = (L.take (k + 1) ++ ⟨t, numT n th, th, 0, true⟩ :: L.drop (k + 1), 0) := by
            unfold writeP
            rw [if_neg ho, if_neg hz, hu1]
            simp only
            rw [if_neg hl, if_neg hut, hk]
          refine (write_in h.toChAt h.ris h.few ht ho' hk hu h1 hut).mono ?_
          rintro e w' ⟨v', rfl, hc, hT, hv⟩
          exact ⟨v', _, [], rfl, rfl, (fun e hm => by simp at hm), by simp, by rw [hr]; rfl, by rw [hr]; exact hc, hT, hv⟩
set_option maxRecDepth 100000 in
set_option maxHeartbeats 1000000 in
theorem Write_all {w : World} {c : Nat} {v : Value} {L : List Ver} {t n : Int} {th : Bool} (h : Ch w c v L) (ht : InR64 t) (hn : InR64 n) (hlen : L.length + 1 ≤ 1000000) :
    Calls Tryd.prog 16 #[.pointer (some ⟨c, 0, none⟩), .int .i64 t, .int .i64 n, .bool th] w fun e w' => ∃ v', e = .returned (.int .i64 (writeP L t n th).2) ∧ Ch w' c v' (writeP L t n th).1 ∧ Touch (fun b => b = c ∨ v.ownBlock = some b) w w' ∧ (v'.ownBlock = v.ownBlock ∨ ∃ b, v'.ownBlock = some b ∧ w.heap.size ≤ b) := by
  have HV := Lib.hid (version_any t n th w)
  have HW := Lib.hid (fun (W : World) (hb : Below w.heap.size w W) => write_all (n := n) (th := th) (h.below hb) ht)
  have HC := Lib.hid h
  have hcc : ¬ (0 = c ∨ v.ownBlock = some 0) := by
    rintro (e | e)
    · have h1 := h.head
      have h2 := h.glob
      unfold Glob at h2
      subst e
      rw [cell_of h1 0] at h2
      obtain ⟨A, cap, rfl, _⟩ := h.row.form
      cases h2
    · exact h.free e
  have HCC := Lib.hid hcc
  have hr := writeP_ris (t := t) (n := n) (there := th) h.ris
  have HRI := Lib.hid hr
  have HOK := Lib.hid (writeP_ok (n := n) (th := th) h.ok ht hn)
  clear h ht hn hcc hr
  unfold WritePost at HW
  generalize hp : writeP L t n th = p at HRI HOK HW
  obtain ⟨L', er⟩ := p
  go_enter Tryd.func16, Tryd.ntmps16
  go_wp2_with fail
  refine (HV.out).mono ?_
  rintro e w1 ⟨rfl, hb1⟩
  have HB1 := Lib.hid hb1
  clear hb1 HV
  go_wp2_with fail
  refine (HW.out w1 HB1.out).mono ?_
  rintro e w2 ⟨v', ev, ks, rfl, he, hno, hln, hco, hch, hT, hv⟩
  have hT2 : Touch (fun b => b = c ∨ v.ownBlock = some b) w w2 := Touch.ahead HB1.out hT
  have hg2 : Glob w2 := HC.out.glob.touch hT2 HCC.out
  have HCD : Hid (Calls Tryd.prog 30 #[ev] w2 fun e w' => e = .returned (.int .i64 er) ∧ Below w2.heap.size w2 w') := Lib.hid (by
    have := code_any hg2 he hno hln (Below.refl _ _)
    rwa [hco] at this)
  have hfree : v'.ownBlock ≠ some 0 := fun e => by
    rcases hv with e2 | ⟨b, e2, hb⟩
    · rw [e] at e2; exact HC.out.free e2.symm
    · rw [e] at e2
      injection e2 with e2
      have := HC.out.glob.lt
      have := HB1.out.size
      omega
  have HCH : Hid (Ch w2 c v' L') := Lib.hid ⟨hch, HRI.out.1, by have := HRI.out.2; show L'.length ≤ 1000000; omega, HOK.out, hg2, hfree⟩
  have HT2 := Lib.hid hT2
  have HVV : Hid (v'.ownBlock = v.ownBlock ∨ ∃ b, v'.ownBlock = some b ∧ w.heap.size ≤ b) := Lib.hid (hv.imp id (fun ⟨b, e, hb⟩ => ⟨b, e, Nat.le_trans HB1.out.size hb⟩))
  clear he hno hln hco hch hT hv hT2 hg2 hfree HW HC HCC HRI HOK hp
  go_wp2_with fail
  refine (HCD.out).mono ?_
  rintro e w3 ⟨rfl, hb3⟩
  have HC3 := Lib.hid (HCH.out.below hb3)
  have HT3 := Lib.hid (HT2.out.after hb3)
  clear hb3 HCD HCH HT2
  go_wp2_with fail
  go_ret
  exact ⟨v', rfl, HC3.out, HT3.out, HVV.out⟩
end Go.Proofs.YtmaokoekbjjgfaaDoor
