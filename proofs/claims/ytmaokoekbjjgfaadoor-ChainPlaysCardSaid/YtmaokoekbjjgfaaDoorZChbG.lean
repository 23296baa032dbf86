/- Prune. -/
import Derived.Test.YtmaokoekbjjgfaaDoorZChbF
set_option linter.unusedSimpArgs false
set_option linter.unusedVariables false
set_option linter.unnecessarySimpa false
namespace Go.Proofs.YtmaokoekbjjgfaaDoor
open Go.RowKit Go.Shelf

/-- The time of the last version that is not open and lies below. -/
def lastP (below : Int) (L : List Ver) : Int := L.foldl (fun a v => if v.opn = false ∧ v.at_ < below then v.at_ else a) 0
theorem lastP_snoc (below : Int) (L : List Ver) (v : Ver) : lastP below (L ++ [v]) = if v.opn = false ∧ v.at_ < below then v.at_ else lastP below L := by
  unfold lastP
  rw [List.foldl_append]
  rfl
def pruneP (L : List Ver) (below : Int) : List Ver := keepV (lastP below L) L
theorem keepV_len (last : Int) (L : List Ver) : (keepV last L).length ≤ L.length := List.length_filter_le ..
set_option maxRecDepth 100000 in
set_option maxHeartbeats 1600000 in
theorem Prune_any {w : World} {c : Nat} {v : Value} {L : List Ver} {t : Int} (h : Ch w c v L) (h0 : 0 < L.length) :
    Calls Tryd.prog 21 #[.pointer (some ⟨c, 0, none⟩), .int .i64 t] w fun e w' => ∃ v', e = .returned (.int .i64 ((L.length : Int) - ((pruneP L t).length : Int))) ∧ Ch w' c v' (pruneP L t) ∧ Touch (fun b => b = c ∨ v.ownBlock = some b) w w' ∧ v'.ownBlock = v.ownBlock := by
  rcases h.row with ⟨_, e, _⟩ | ⟨g, cap, rfl, _, hle, hrow⟩
  · omega
  have kc : w.cell? ⟨c, 0, none⟩ = some (.slice (some ⟨g, 0, none⟩) L.length cap) := cell_of h.head 0
  have hlI : (L.length : Int) ≤ 1000000 := by have := h.few; omega
  have hgc : g ≠ c := fun e => h.off (by rw [e]; rfl)
  have hgl := hrow.lt
  have hcl := heap_lt h.head
  have hat := alloc_at w (.cells #[.int .i64 0] 3)
  have hb1 := below_new (w := w) (.cells #[.int .i64 0] 3)
  have kc1 : (w.alloc (.cells #[.int .i64 0] 3)).cell? ⟨c, 0, none⟩ = some (.slice (some ⟨g, 0, none⟩) L.length cap) := (hb1.cell (p := ⟨c, 0, none⟩) hcl).trans kc
  obtain ⟨P, hP⟩ : ∃ P, P = pruneP L t := ⟨_, rfl⟩
  rw [← hP]
  have HPP : Hid (keepV (lastP t L) L = P) := Lib.hid hP.symm
  clear hP
  have HC := Lib.hid h
  have HROW := Lib.hid hrow
  have HGL := Lib.hid hgl
  have HCL := Lib.hid hcl
  have HAT := Lib.hid hat
  have HB1 := Lib.hid hb1
  have HLE := Lib.hid hle
  clear h hrow hgl hcl hat hb1 hle
  go_enter Tryd.func21, Tryd.ntmps21
  go_wp2_with fail
  go_loopw [21] (fun iv wr => ∃ k : Nat, k ≤ L.length ∧ iv = .int .i64 k ∧ wr.heap[w.heap.size]? = some (.cells #[.int .i64 (lastP t (L.take k))] 3 (0, 0)) ∧ Below w.heap.size w wr) (fun iv _ => L.length - (intOf iv).toNat)
  case atStart => exact ⟨0, Nat.zero_le _, rfl, HAT.out, HB1.out⟩
  case round =>
    obtain ⟨k, hk, rfl, hbx, hbw⟩ := hrel
    have HBX := Lib.hid hbx
    have HB := Lib.hid hbw
    by_cases hlt : k < L.length
    · have hx : L[k]? = some L[k] := List.getElem?_eq_getElem hlt
      generalize L[k] = y at hx
      have hrw := HROW.out.keep hbw.size (hbw.block g HGL.out)
      obtain ⟨c0, c1, c2, c3, c4⟩ := hrw.has hx
      have hki : (k : Int) < (L.length : Int) := by omega
      have htk : L.take (k + 1) = L.take k ++ [y] := by rw [List.take_add_one, hx]; rfl
      have HTK := Lib.hid htk
      have hbn := below_new (w := wr) (.cells #[.int .i64 y.at_, .int .i64 y.n, .bool y.there, .int .i64 y.read, .bool y.opn] 47)
      have hz := alloc_at wr (.cells #[.int .i64 y.at_, .int .i64 y.n, .bool y.there, .int .i64 y.read, .bool y.opn] 47)
      have hbx2 := (hbn.block w.heap.size (heap_lt hbx)).trans hbx
      have z0 : (wr.alloc (.cells #[.int .i64 y.at_, .int .i64 y.n, .bool y.there, .int .i64 y.read, .bool y.opn] 47)).cell? ⟨wr.heap.size, 0, none⟩ = some (.int .i64 y.at_) := cell_of hz 0
      have z4 : (wr.alloc (.cells #[.int .i64 y.at_, .int .i64 y.n, .bool y.there, .int .i64 y.read, .bool y.opn] 47)).cell? ⟨wr.heap.size, 4, none⟩ = some (.bool y.opn) := cell_of hz 4
      have b0 : (wr.alloc (.cells #[.int .i64 y.at_, .int .i64 y.n, .bool y.there, .int .i64 y.read, .bool y.opn] 47)).cell? ⟨w.heap.size, 0, none⟩ = some (.int .i64 (lastP t (L.take k))) := cell_of hbx2 0
      have f0 := free0 hbx2 0
      have HLT := Lib.hid hlt
      have hb2 := hbw.trans (hbn.mono hbw.size)
      have HB2 := Lib.hid hb2
      have HBX2 := Lib.hid hbx2
      have HB3 := Lib.hid (hb2.setCell (p := ⟨w.heap.size, 0, none⟩) (Nat.le_refl _) (.int .i64 y.at_))
      have HBX3 := Lib.hid (set_at hbx2 0 (.int .i64 y.at_))
      clear hk hlt hbx hbw hx hrw htk hbn hz hbx2 hb2
      obtain ⟨ya, yn, yt, yr, yo⟩ := y
      cases yo with
      | true =>
        have HL : Hid (lastP t (L.take (k + 1)) = lastP t (L.take k)) := Lib.hid (by rw [HTK.out, lastP_snoc, if_neg (by simp)])
        go_wp2_with fail
        go_roundw
        case rel => exact ⟨k + 1, HLT.out, by go_num, by rw [HL.out]; exact HBX2.out, HB2.out⟩
        case measure => have := HLT.out; simp [intOf]; omega
      | false =>
        by_cases hlo : ya < t
        · have HL : Hid (lastP t (L.take (k + 1)) = ya) := Lib.hid (by rw [HTK.out, lastP_snoc, if_pos ⟨rfl, hlo⟩])
          go_wp2_with fail
          go_roundw
          case rel => exact ⟨k + 1, HLT.out, by go_num, by rw [HL.out]; exact HBX3.out, HB3.out⟩
          case measure => have := HLT.out; simp [intOf]; omega
        · have HL : Hid (lastP t (L.take (k + 1)) = lastP t (L.take k)) := Lib.hid (by rw [HTK.out, lastP_snoc, if_neg (fun e => hlo e.2)])
          go_wp2_with fail
          go_roundw
          case rel => exact ⟨k + 1, HLT.out, by go_num, by rw [HL.out]; exact HBX2.out, HB2.out⟩
          case measure => have := HLT.out; simp [intOf]; omega
    · obtain rfl : k = L.length := by omega
      rw [List.take_length] at hbx
      have hrw := HROW.out.keep hbw.size (hbw.block g HGL.out)
      have HD := Lib.hid (delete_func hrw HLE.out HC.out.few (cell_of hbx 0) (by have := HGL.out; omega))
      have kcr : wr.cell? ⟨c, 0, none⟩ = some (.slice (some ⟨g, 0, none⟩) L.length cap) := (hbw.cell (p := ⟨c, 0, none⟩) HCL.out).trans kc
      have hhr := (hbw.block c HCL.out).trans HC.out.head
      have HHR := Lib.hid hhr
      clear hlt hk hbx hbw hrw hhr
      go_wp2_with fail
      refine (HD.out).mono ?_
      rintro e w2 ⟨rfl, hr2, ht2⟩
      have hh : w2.heap[c]? = some (.cells #[.slice (some ⟨g, 0, none⟩) L.length cap] 58 (0, 0)) := (ht2.block c (heap_lt HHR.out) (fun e => hgc e.symm)).trans HHR.out
      have kc2 : w2.cell? ⟨c, 0, none⟩ = some (.slice (some ⟨g, 0, none⟩) L.length cap) := cell_of hh 0
      have fc2 := free0 hh 0
      have hml := keepV_len (lastP t L) L
      have hsub : ∀ x ∈ keepV (lastP t L) L, x ∈ L := fun x hx => (List.mem_filter.1 hx).1
      have hris : Ris (keepV (lastP t L) L) := HC.out.ris.sublist List.filter_sublist
      rw [HPP.out] at hr2 hml hsub hris ⊢
      have hT : Touch (fun b => b = c ∨ some g = some b) w (w2.setCell ⟨c, 0, none⟩ (.slice (some ⟨g, 0, none⟩) P.length cap)) := (((Touch.of_below (S := fun b => b = c ∨ some g = some b) HB.out).trans ht2 (fun i _ e => .inr (by rw [e])))).setCell ⟨c, 0, none⟩ (fun _ => .inl rfl) _
      have hrow' : RowC (w2.setCell ⟨c, 0, none⟩ (.slice (some ⟨g, 0, none⟩) P.length cap)) 5 g cap (verC P) := hr2.keep (by simp [World.setCell]) (Below.heap_setCell _ _ _ _ hgc)
      have hgl : Glob (w2.setCell ⟨c, 0, none⟩ (.slice (some ⟨g, 0, none⟩) P.length cap)) := HC.out.glob.touch hT (fun e => by
        rcases e with e | e
        · have h1 := HC.out.head
          have h2 := HC.out.glob
          unfold Glob at h2
          subst e
          rw [cell_of h1 0] at h2
          cases h2
        · exact HC.out.free e)
      have HF : Hid (Ch (w2.setCell ⟨c, 0, none⟩ (.slice (some ⟨g, 0, none⟩) P.length cap)) c (.slice (some ⟨g, 0, none⟩) P.length cap) P ∧ Touch (fun b => b = c ∨ some g = some b) w (w2.setCell ⟨c, 0, none⟩ (.slice (some ⟨g, 0, none⟩) P.length cap))) := Lib.hid ⟨⟨⟨by have := set_at hh 0 (.slice (some ⟨g, 0, none⟩) P.length cap); simpa using this, .inr ⟨g, cap, rfl, verC_len _, Nat.le_trans hml HLE.out, hrow'⟩, fun e => hgc (Option.some.inj e)⟩, hris, Nat.le_trans hml HC.out.few, fun x hx => HC.out.ok x (hsub x hx), hgl, HC.out.free⟩, hT⟩
      have hmI : (P.length : Int) ≤ (L.length : Int) := by omega
      clear hr2 ht2 hh hT hrow' hgl HD kcr hsub hris hml kc kc1
      go_wp2_with fail
      go_ret
      exact ⟨_, rfl, HF.out.1, HF.out.2, rfl⟩
end Go.Proofs.YtmaokoekbjjgfaaDoor
