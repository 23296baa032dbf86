/- The place of a time's version, walked; errors. find; a version's cell is set. read, by its outcomes. -/
import Derived.Test.YtmaokoekbjjgfaaDoorZChaB
set_option linter.unusedSimpArgs false
set_option linter.unusedVariables false
set_option linter.unnecessarySimpa false
namespace Go.Proofs.YtmaokoekbjjgfaaDoor
open Go.RowKit Go.Shelf Go.Sort Go.Lib

set_option maxRecDepth 100000 in
set_option maxHeartbeats 4000000 in
theorem last_any {w : World} {c : Nat} {v : Value} {L : List Ver} {t : Int} (h : ChAt w c v L) (hr : Ris L) (hl : L.length ≤ 1000000) :
    Calls Tryd.prog 45 #[.pointer (some ⟨c, 0, none⟩), .int .i64 t] w fun e w' => e = .returned (.int .i64 ((cnt L t : Int) - 1)) ∧ Below w.heap.size w w' := by
  obtain ⟨A, cap, ev, hc1, hc2, _⟩ := h.row.form
  subst ev
  unfold maxLen at hc2
  have hlI : (L.length : Int) ≤ 1000000 := by omega
  have hcl := cnt_le L t
  have hcI : (cnt L t : Int) ≤ 1000000 := by omega
  have hb1 := below_new (w := w) (.cells #[.pointer (some ⟨c, 0, none⟩)] 23)
  have hb2 : Below w.heap.size w ((w.alloc (.cells #[.pointer (some ⟨c, 0, none⟩)] 23)).alloc (.cells #[.int .i64 t] 3)) := hb1.trans ((below_new _).mono (by rw [asz]; omega))
  have ht := h.below hb2
  have kc := cell_of ht.head 0
  have kc' : ((w.alloc (.cells #[.pointer (some ⟨c, 0, none⟩)] 23)).alloc (.cells #[.int .i64 t] 3)).cell? ⟨c, 0, none⟩ = some (.slice A L.length cap) := kc
  have k0 : ((w.alloc (.cells #[.pointer (some ⟨c, 0, none⟩)] 23)).alloc (.cells #[.int .i64 t] 3)).cell? ⟨w.heap.size, 0, none⟩ = some (.pointer (some ⟨c, 0, none⟩)) := by
    rw [World.cell?_of_block (a := ⟨w.heap.size, 0, none⟩) (Below.heap_alloc _ _ _ (by show w.heap.size < _; rw [asz]; omega))]
    exact cell_of (alloc_at w _) 0
  have k1 : ((w.alloc (.cells #[.pointer (some ⟨c, 0, none⟩)] 23)).alloc (.cells #[.int .i64 t] 3)).cell? ⟨w.heap.size + 1, 0, none⟩ = some (.int .i64 t) := by
    have := cell_of (alloc_at (w.alloc (.cells #[.pointer (some ⟨c, 0, none⟩)] 23)) (.cells #[.int .i64 t] 3)) 0
    rw [asz] at this
    exact this
  have hs2 : ((w.alloc (.cells #[.pointer (some ⟨c, 0, none⟩)] 23)).alloc (.cells #[.int .i64 t] 3)).heap.size = w.heap.size + 2 := by rw [asz, asz]
  have hS := Any.sort_Search Tryd.searchA 53 #[.pointer (some ⟨w.heap.size, 0, none⟩), .pointer (some ⟨w.heap.size + 1, 0, none⟩)] L.length (fun i => match L[i]? with | none => true | some u => decide (t < u.at_))
    ((w.alloc (.cells #[.pointer (some ⟨c, 0, none⟩)] 23)).alloc (.cells #[.int .i64 t] 3)) (enters_of Tryd.func53 (by kernel_rfl) rfl) (by omega) (fun m os i hi => by
      have hu : L[i]? = some L[i] := List.getElem?_eq_getElem hi
      have hbg : Below ((w.alloc (.cells #[.pointer (some ⟨c, 0, none⟩)] 23)).alloc (.cells #[.int .i64 t] 3)).heap.size ((w.alloc (.cells #[.pointer (some ⟨c, 0, none⟩)] 23)).alloc (.cells #[.int .i64 t] 3)) (grow (((w.alloc (.cells #[.pointer (some ⟨c, 0, none⟩)] 23)).alloc (.cells #[.int .i64 t] 3)).drewN m) os) := below_grown_drew _ m os
      have h1 := ask_any (W := grow (((w.alloc (.cells #[.pointer (some ⟨c, 0, none⟩)] 23)).alloc (.cells #[.int .i64 t] 3)).drewN m) os) (t := t) (ht.below hbg) ((hbg.cell (p := ⟨w.heap.size, 0, none⟩) (by rw [hs2]; show w.heap.size < _; omega)).trans k0) ((hbg.cell (p := ⟨w.heap.size + 1, 0, none⟩) (by rw [hs2]; show w.heap.size + 1 < _; omega)).trans k1) hu hl
      refine h1.mono ?_
      rintro e w' ⟨rfl, rfl⟩
      refine ⟨?_, 1, #[], (grow_nil _).symm⟩
      rw [hu]) (fun a b hab hb ha => by
      have hu : L[b]? = some L[b] := List.getElem?_eq_getElem hb
      have hv : L[a]? = some (L[a]'(by omega)) := List.getElem?_eq_getElem _
      rw [hv] at ha
      rw [hu]
      have ha : t < (L[a]'(by omega)).at_ := by simpa using ha
      show decide (t < L[b].at_) = true
      by_cases e : a = b
      · subst e; simpa using ha
      · have := List.pairwise_iff_getElem.1 hr a b (by omega) hb (by omega)
        simp
        omega)
  rw [cnt_range (t := t) (fun i => match L[i]? with | none => true | some u => decide (t < u.at_)) (fun i u hu => by simp [hu])] at hS
  have HS : Hid (Calls Tryd.prog 52 #[.int .i64 L.length, .func (.func 53) #[] #[.pointer (some ⟨w.heap.size, 0, none⟩), .pointer (some ⟨w.heap.size + 1, 0, none⟩)]] ((w.alloc (.cells #[.pointer (some ⟨c, 0, none⟩)] 23)).alloc (.cells #[.int .i64 t] 3)) fun e w' => e = .returned (.int .i64 (cnt L t : Nat)) ∧ ∃ q os, w' = grow (((w.alloc (.cells #[.pointer (some ⟨c, 0, none⟩)] 23)).alloc (.cells #[.int .i64 t] 3)).drewN q) os) := Lib.hid hS
  have HB2 := Lib.hid hb2
  clear hS hb1 hb2 ht kc k1 hcl hs2 h
  go_enter Tryd.func45, Tryd.ntmps45
  go_wp2_with fail
  refine (HS.out).mono ?_
  rintro e w2 ⟨rfl, q, os, rfl⟩
  have HB3 := Lib.hid (HB2.out.trans ((below_grown_drew _ q os).mono HB2.out.size))
  generalize grow (((w.alloc (.cells #[.pointer (some ⟨c, 0, none⟩)] 23)).alloc (.cells #[.int .i64 t] 3)).drewN q) os = w3 at *
  clear kc' k0 HS HB2
  go_wp2_with fail
  go_ret
  exact ⟨rfl, HB3.out⟩
end Go.Proofs.YtmaokoekbjjgfaaDoor

namespace Go.Proofs.YtmaokoekbjjgfaaDoor
open Go.RowKit Go.Shelf

theorem RowC.setC {w : World} {z g cap p : Nat} {l : List Value} (h : RowC w z g cap l) (hp : p < l.length) (x : Value) : RowC (w.setCell ⟨g, p, none⟩ x) z g cap (l.set p x) := by
  have hle := h.le
  obtain ⟨u, hc⟩ := Option.isSome_iff_exists.1 (h.there p (by omega)).1
  refine ⟨by simp [World.setCell]; exact h.lt, by rw [List.length_set]; exact hle, h.max, fun j b hj => ?_, fun j hj => ⟨?_, ?_⟩⟩
  · rw [List.getElem?_set] at hj
    by_cases hij : p = j
    · subst hij
      rw [if_pos rfl, if_pos hp] at hj
      rw [World.cell?_setCell_same _ _ _ hc]
      exact hj
    · rw [if_neg hij] at hj
      rw [World.cell?_setCell_other _ _ _ _ (fun e => hij (by injection e))]
      exact h.holds j b hj
  · by_cases hij : p = j
    · subst hij
      rw [World.cell?_setCell_same _ _ _ hc]
      rfl
    · rw [World.cell?_setCell_other _ _ _ _ (fun e => hij (by injection e))]
      exact (h.there j hj).1
  · have := (h.there j hj).2
    simpa using this
theorem verC_set {L : List Ver} : ∀ {i : Nat} {u u' : Ver} {j : Nat} {x : Value}, L[i]? = some u → j < 5 → verV u' = (verV u).set j x → (verC L).set (i * 5 + j) x = verC (L.set i u') := by
  induction L with
  | nil => intro i u u' j x h; simp at h
  | cons a L ih =>
    intro i u u' j x h hj hu
    have e : ∀ (a : Ver) (L : List Ver), verC (a :: L) = verV a ++ verC L := fun a L => by unfold verC; simp
    cases i with
    | zero =>
      have : a = u := by simpa using h
      subst this
      rw [List.set_cons_zero, e, e, hu, List.set_append_left _ _ (by simp [verV]; omega)]
      simp
    | succ i =>
      have h' : L[i]? = some u := by simpa using h
      rw [List.set_cons_succ, e, e, List.set_append_right _ _ (by simp [verV]; omega)]
      have e2 : (i + 1) * 5 + j - (verV a).length = i * 5 + j := by simp [verV]; omega
      rw [e2, ih h' hj hu]
/-- A field of a version is set. -/
theorem ChAt.setV {w : World} {c g cap : Nat} {L : List Ver} (h : ChAt w c (.slice (some ⟨g, 0, none⟩) L.length cap) L) {i j : Nat} {u u' : Ver} {x : Value} (hi : L[i]? = some u) (hj : j < 5) (hu : verV u' = (verV u).set j x) : ChAt (w.setCell ⟨g, i * 5 + j, none⟩ x) c (.slice (some ⟨g, 0, none⟩) (L.set i u').length cap) (L.set i u') := by
  have hil := (List.getElem?_eq_some_iff.1 hi).1
  have hgc : g ≠ c := fun e => h.off (by rw [e]; rfl)
  have hln : (L.set i u').length = L.length := List.length_set
  rw [hln]
  refine ⟨(Below.heap_setCell _ _ _ _ (fun e => hgc (Eq.symm (by simpa using e)))).trans h.head, ?_, fun e => hgc (by cases e; rfl)⟩
  rcases h.row with ⟨h1, _⟩ | ⟨g', cap', h1, h2, h3, hc⟩
  · cases h1
  · cases h1
    refine .inr ⟨g, cap, by rw [hln], by rw [verC_len], by rw [hln]; exact h3, ?_⟩
    rw [← verC_set hi hj hu]
    exact hc.setC (by rw [verC_len]; omega) x
theorem Touch.cell1 (w : World) (g p : Nat) (x : Value) : Touch (fun k => k = g) w (w.setCell ⟨g, p, none⟩ x) := (Touch.refl (fun k => k = g) w).setCell ⟨g, p, none⟩ (fun _ => rfl) _
/-- What find tells. -/
def findE (L : List Ver) (t : Int) : List Lk := if okT t = false then [.bnd 1073741824 t, .num 2] else if cnt L t = 0 then [.plc t, .num 22] else []
/-- An error that lies in blocks from B on alone. -/
def ErrNew (B : Nat) (w : World) (k : List Lk) (ev : Value) : Prop := ∀ W : World, (∀ b, B ≤ b → b < w.heap.size → W.heap[b]? = w.heap[b]?) → ErrIs W k ev
theorem ErrNew.is {B : Nat} {w : World} {k : List Lk} {ev : Value} (h : ErrNew B w k ev) : ErrIs w k ev := h w (fun _ _ _ => rfl)
theorem ErrNew.keep {B : Nat} {w W : World} {k : List Lk} {ev : Value} (h : ErrNew B w k ev) (hs : w.heap.size ≤ W.heap.size) (hk : ∀ b, B ≤ b → b < w.heap.size → W.heap[b]? = w.heap[b]?) : ErrNew B W k ev :=
  fun W2 h2 => h W2 (fun b h3 h4 => (h2 b h3 (by omega)).trans (hk b h3 h4))
theorem ErrNew.mono {B C : Nat} {w : World} {k : List Lk} {ev : Value} (h : ErrNew B w k ev) (hc : C ≤ B) : ErrNew C w k ev := fun W h2 => h W (fun b h3 h4 => h2 b (by omega) h4)
theorem errNew_bnd {B b : Nat} {w : World} {l g n : Int} (hb : B ≤ b) (h : w.heap[b]? = some (.cells #[.iface 85 (.agg #[.int .i64 n]), .int .i64 l, .int .i64 g] 100 (0, 0))) : ErrNew B w [.bnd l g, .num n] (.iface 98 (.pointer (some ⟨b, 0, none⟩))) :=
  fun W hk => ⟨by simp, b, _, rfl, (hk b hb (heap_lt h)).trans h, rfl, rfl⟩
theorem errNew_plc {B b : Nat} {w : World} {p n : Int} (hb : B ≤ b) (h : w.heap[b]? = some (.cells #[.iface 85 (.agg #[.int .i64 n]), .int .i64 p] 96 (0, 0))) : ErrNew B w [.plc p, .num n] (.iface 92 (.pointer (some ⟨b, 0, none⟩))) :=
  fun W hk => ⟨by simp, b, _, rfl, (hk b hb (heap_lt h)).trans h, rfl, rfl⟩
theorem errNew_late {B b d : Nat} {w : World} {p l g n : Int} (hb : B ≤ b) (hd : B ≤ d) (h : w.heap[b]? = some (.cells #[.iface 98 (.pointer (some ⟨d, 0, none⟩)), .int .i64 p] 96 (0, 0))) (h2 : w.heap[d]? = some (.cells #[.iface 85 (.agg #[.int .i64 n]), .int .i64 l, .int .i64 g] 100 (0, 0))) : ErrNew B w [.plc p, .bnd l g, .num n] (.iface 92 (.pointer (some ⟨b, 0, none⟩))) :=
  fun W hk => ⟨by simp, b, _, rfl, (hk b hb (heap_lt h)).trans h, by simp, d, _, rfl, (hk d hd (heap_lt h2)).trans h2, rfl, rfl⟩
set_option maxRecDepth 100000 in
set_option maxHeartbeats 4000000 in
theorem find_any {w : World} {c : Nat} {v : Value} {L : List Ver} {t : Int} (h : ChAt w c v L) (hr : Ris L) (hl : L.length ≤ 1000000) (ht : InR64 t) :
    Calls Tryd.prog 39 #[.pointer (some ⟨c, 0, none⟩), .int .i64 t] w fun e w' => ∃ i ev, e = .returned (.tuple #[.int .i64 i, ev]) ∧ ErrNew w.heap.size w' (findE L t) ev ∧ (findE L t = [] → i = (cnt L t : Int) - 1) ∧ Below w.heap.size w w' := by
  have HLA := Lib.hid (last_any (t := t) h hr hl)
  have hcl := cnt_le L t
  have hcI : (cnt L t : Int) ≤ 1000000 := by omega
  clear h
  by_cases ho : okT t = false
  · have hF : findE L t = [.bnd 1073741824 t, .num 2] := by unfold findE; rw [if_pos ho]
    rw [hF]
    have HN := Lib.hid (new_num 2 (by decide) w)
    have ho' : t < 1 ∨ 1073741824 < t := by
      unfold okT at ho
      simp at ho
      omega
    clear hF ho
    rcases ho' with h1 | h1
    · have q1 : (t < 1) = True := eq_true h1
      clear h1
      go_enter Tryd.func39, Tryd.ntmps39
      go_wp2_with fail
      refine (HN.out).mono ?_
      rintro e w1 ⟨rfl, rfl⟩
      have HBO := Lib.hid (bound_some 1073741824 t 85 (.agg #[.int .i64 2]) w)
      clear HN
      go_wp2_with fail
      refine (HBO.out).mono ?_
      rintro e w2 ⟨rfl, rfl⟩
      clear HBO
      go_wp2_with fail
      refine bodyPost_ret (v := .tuple #[.int .i64 0, .iface 98 (.pointer (some ⟨w.heap.size, 0, none⟩))]) (by simp [results, Tryd.results39, go_sem]) rfl ?_
      exact ⟨0, _, rfl, errNew_bnd (Nat.le_refl _) (alloc_at w _), (fun e => by cases e), below_new _⟩
    · have q1 : (t < 1) = False := eq_false (by omega)
      have q2 : (1073741824 < t) = True := eq_true h1
      clear h1
      go_enter Tryd.func39, Tryd.ntmps39
      go_wp2_with fail
      refine (HN.out).mono ?_
      rintro e w1 ⟨rfl, rfl⟩
      have HBO := Lib.hid (bound_some 1073741824 t 85 (.agg #[.int .i64 2]) w)
      clear HN
      go_wp2_with fail
      refine (HBO.out).mono ?_
      rintro e w2 ⟨rfl, rfl⟩
      clear HBO
      go_wp2_with fail
      refine bodyPost_ret (v := .tuple #[.int .i64 0, .iface 98 (.pointer (some ⟨w.heap.size, 0, none⟩))]) (by simp [results, Tryd.results39, go_sem]) rfl ?_
      exact ⟨0, _, rfl, errNew_bnd (Nat.le_refl _) (alloc_at w _), (fun e => by cases e), below_new _⟩
  · have h1 : 1 ≤ t ∧ t ≤ 1073741824 := by
      unfold okT at ho
      simp at ho
      exact ho
    have q1 : (t < 1) = False := eq_false (by omega)
    have q2 : (1073741824 < t) = False := eq_false (by omega)
    by_cases hz : cnt L t = 0
    · have hF : findE L t = [.plc t, .num 22] := by unfold findE; rw [if_neg ho, if_pos hz]
      rw [hF]
      rw [hz] at HLA
      clear hF hz ho h1 hcl hcI
      go_enter Tryd.func39, Tryd.ntmps39
      go_wp2_with fail
      refine (HLA.out).mono ?_
      rintro e w1 ⟨rfl, hb1⟩
      have HN := Lib.hid (new_num 22 (by decide) w1)
      have HB0 := Lib.hid hb1
      clear hb1 HLA
      go_wp2_with fail
      refine (HN.out).mono ?_
      rintro e w2 ⟨rfl, rfl⟩
      have HAT := Lib.hid (at_some t 85 (.agg #[.int .i64 22]) w1)
      clear HN
      go_wp2_with fail
      refine (HAT.out).mono ?_
      rintro e w3 ⟨rfl, rfl⟩
      clear HAT
      go_wp2_with fail
      refine bodyPost_ret (v := .tuple #[.int .i64 0, .iface 92 (.pointer (some ⟨w1.heap.size, 0, none⟩))]) (by simp [results, Tryd.results39, go_sem]) rfl ?_
      exact ⟨0, _, rfl, errNew_plc HB0.out.size (alloc_at w1 _), (fun e => by cases e), HB0.out.trans ((below_new _).mono HB0.out.size)⟩
    · have hF : findE L t = [] := by unfold findE; rw [if_neg ho, if_neg hz]
      rw [hF]
      have q3 : ((cnt L t : Int) - 1 < 0) = False := eq_false (by omega)
      have q4 : ((cnt L t : Int) < 1) = False := eq_false (by omega)
      clear hF hz ho h1 hcl
      go_enter Tryd.func39, Tryd.ntmps39
      go_wp2_with fail
      refine (HLA.out).mono ?_
      rintro e w1 ⟨rfl, hb1⟩
      have HB0 := Lib.hid hb1
      clear hb1 HLA
      go_wp2_with fail
      refine bodyPost_ret (v := .tuple #[.int .i64 ((cnt L t : Int) - 1), .nilIface]) (by simp [results, Tryd.results39, go_sem]) rfl ?_
      exact ⟨_, _, rfl, fun _ _ => rfl, fun _ => rfl, HB0.out⟩
end Go.Proofs.YtmaokoekbjjgfaaDoor

namespace Go.Proofs.YtmaokoekbjjgfaaDoor
open Go.RowKit Go.Shelf

def zeroV : Value := .agg #[.int .i64 0, .int .i64 0, .bool false, .int .i64 0, .bool false]
theorem zero_cells {w w1 : World} (hb : Below (w.alloc (.cells #[.int .i64 0, .int .i64 0, .bool false, .int .i64 0, .bool false] 47)).heap.size (w.alloc (.cells #[.int .i64 0, .int .i64 0, .bool false, .int .i64 0, .bool false] 47)) w1) : w1.heap[w.heap.size]? = some (.cells #[.int .i64 0, .int .i64 0, .bool false, .int .i64 0, .bool false] 47 (0, 0)) :=
  (hb.block w.heap.size (by rw [asz]; omega)).trans (alloc_at w _)
/-- A version is stored whole. -/
def put5 (W : World) (b o : Nat) (x0 x1 x2 x3 x4 : Value) : World := ((((W.setCell ⟨b, o, none⟩ x0).setCell ⟨b, o + 1, none⟩ x1).setCell ⟨b, o + 2, none⟩ x2).setCell ⟨b, o + 3, none⟩ x3).setCell ⟨b, o + 4, none⟩ x4
theorem put5_at {W : World} {b : Nat} {y0 y1 y2 y3 y4 : Value} {T : TypeId} (h : W.heap[b]? = some (.cells #[y0, y1, y2, y3, y4] T (0, 0))) (x0 x1 x2 x3 x4 : Value) : (put5 W b 0 x0 x1 x2 x3 x4).heap[b]? = some (.cells #[x0, x1, x2, x3, x4] T (0, 0)) := by
  have h0 := set_at h 0 x0
  have h1 := set_at h0 1 x1
  have h2 := set_at h1 2 x2
  have h3 := set_at h2 3 x3
  have h4 := set_at h3 4 x4
  simpa [put5] using h4
theorem put5_below {W w : World} {b : Nat} (hb : Below w.heap.size w W) (hl : w.heap.size ≤ b) (o : Nat) (x0 x1 x2 x3 x4 : Value) : Below w.heap.size w (put5 W b o x0 x1 x2 x3 x4) :=
  ((((hb.setCell (p := ⟨b, o, none⟩) hl _).setCell (p := ⟨b, o + 1, none⟩) hl _).setCell (p := ⟨b, o + 2, none⟩) hl _).setCell (p := ⟨b, o + 3, none⟩) hl _).setCell (p := ⟨b, o + 4, none⟩) hl _
theorem put5_touch {S : Nat → Prop} {W w : World} {b : Nat} (hb : Touch S w W) (hl : w.heap.size ≤ b) (o : Nat) (x0 x1 x2 x3 x4 : Value) : Touch S w (put5 W b o x0 x1 x2 x3 x4) := by
  have key : ∀ j, (⟨b, j, none⟩ : Addr).block < w.heap.size → S (⟨b, j, none⟩ : Addr).block := fun j h => absurd h (Nat.not_lt.2 hl)
  exact ((((hb.setCell ⟨b, o, none⟩ (key _) _).setCell ⟨b, o + 1, none⟩ (key _) _).setCell ⟨b, o + 2, none⟩ (key _) _).setCell ⟨b, o + 3, none⟩ (key _) _).setCell ⟨b, o + 4, none⟩ (key _) _
theorem put5_block {W : World} {b o k : Nat} (hk : k ≠ b) (x0 x1 x2 x3 x4 : Value) : (put5 W b o x0 x1 x2 x3 x4).heap[k]? = W.heap[k]? := by
  unfold put5
  rw [Below.heap_setCell _ _ _ _ hk, Below.heap_setCell _ _ _ _ hk, Below.heap_setCell _ _ _ _ hk, Below.heap_setCell _ _ _ _ hk, Below.heap_setCell _ _ _ _ hk]
theorem ErrNew.put5 {B b o : Nat} {W : World} {k : List Lk} {ev : Value} (h : ErrNew B W k ev) (hb : b < B) (x0 x1 x2 x3 x4 : Value) : ErrNew B (put5 W b o x0 x1 x2 x3 x4) k ev :=
  h.keep (by simp [Proofs.YtmaokoekbjjgfaaDoor.put5, World.setCell]) (fun j h1 _ => put5_block (by omega) ..)
set_option maxRecDepth 100000 in
set_option maxHeartbeats 4000000 in
theorem read_err {w : World} {c : Nat} {v : Value} {L : List Ver} {t : Int} {k : Lk} {r : List Lk} (h : ChAt w c v L) (hr : Ris L) (hl : L.length ≤ 1000000) (ht : InR64 t) (hf : findE L t = k :: r) :
    Calls Tryd.prog 29 #[.pointer (some ⟨c, 0, none⟩), .int .i64 t] w fun e w' => ∃ ev, e = .returned (.tuple #[zeroV, ev]) ∧ ErrNew w.heap.size w' (k :: r) ev ∧ Below w.heap.size w w' := by
  have HF := Lib.hid (fun (W : World) (hb : Below w.heap.size w W) => find_any (t := t) (h.below hb) hr hl ht)
  rw [hf] at HF
  clear h hf
  go_enter Tryd.func29, Tryd.ntmps29
  go_wp2_with fail
  refine (HF.out _ (below_new _)).mono ?_
  rintro e w1 ⟨i, ev, rfl, he, _, hb⟩
  obtain ⟨T, u, rfl⟩ := he.is.form1
  have hz := zero_cells hb
  have c0 := cell_of hz 0
  have c1 := cell_of hz 1
  have c2 := cell_of hz 2
  have c3 := cell_of hz 3
  have c4 := cell_of hz 4
  have f0 := free0 hz 0
  have f1 := free0 hz 1
  have f2 := free0 hz 2
  have f3 := free0 hz 3
  have f4 := free0 hz 4
  simp at c0 c1 c2 c3 c4
  have HE := Lib.hid he
  have HB := Lib.hid ((below_new (w := w) _).trans (hb.mono (by rw [asz]; omega)))
  have HZ := Lib.hid (put5_at hz (.int .i64 0) (.int .i64 0) (.bool false) (.int .i64 0) (.bool false))
  clear he hb hz HF
  go_wp2_with fail
  have HB2 := Lib.hid (put5_below HB.out (Nat.le_refl _) 0 (.int .i64 0) (.int .i64 0) (.bool false) (.int .i64 0) (.bool false))
  have HE2 := Lib.hid (HE.out.put5 (b := w.heap.size) (o := 0) (by rw [asz]; omega) (.int .i64 0) (.int .i64 0) (.bool false) (.int .i64 0) (.bool false))
  change bodyPost _ _ _ _ _ (put5 w1 w.heap.size 0 (.int .i64 0) (.int .i64 0) (.bool false) (.int .i64 0) (.bool false))
  generalize put5 w1 w.heap.size 0 (.int .i64 0) (.int .i64 0) (.bool false) (.int .i64 0) (.bool false) = W5 at *
  have hz := HZ.out
  have k0 := cell_of hz 0
  have k1 := cell_of hz 1
  have k2 := cell_of hz 2
  have k3 := cell_of hz 3
  have k4 := cell_of hz 4
  simp at k0 k1 k2 k3 k4
  refine bodyPost_ret (v := .tuple #[zeroV, .iface T u]) (by simp [results, Tryd.results29, go_sem, k0, k1, k2, k3, k4, zeroV]) rfl ⟨_, rfl, HE2.out.mono (by rw [asz]; omega), HB2.out⟩
end Go.Proofs.YtmaokoekbjjgfaaDoor
