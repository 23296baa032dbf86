/- find; a version's cell is set. -/
import Derived.Test.YtmaokoekbjjgfaaDoorZChaC
set_option linter.unusedSimpArgs false
set_option linter.unusedVariables false
set_option linter.unnecessarySimpa false
namespace Go.Proofs.YtmaokoekbjjgfaaDoor
open Go.RowKit Go.Shelf

theorem RowC.setC {w : World} {z g cap p : Nat} {l : List Value} (h : RowC w z g cap l) (hp : p < l.length) (x : Value) : RowC (w.setCell ⟨g, p, none⟩ x) z g cap (l.set p x) := by
  have hle := h.le
  obtain ⟨u, hc⟩ := Option.isSome_iff_exists.1 (h.there p (by omega)).1
  refine ⟨by simp [World.setCell]; exact h.lt, by rw [List.length_set]; exact hle, h.max, fun j b hj => ?_, fun j hj => ⟨?_, ?_⟩⟩
  · rw [List.getElem?_set] at hj
    by_cases hij : p = j
    · subst hij
      rw [if_pos rfl, if_pos hp] at hj
      rw [World.cell?_setCell_same _ _ _ hc]
      exact hj
    · rw [if_neg hij] at hj
      rw [World.cell?_setCell_other _ _ _ _ (fun e => hij (by injection e))]
      exact h.holds j b hj
  · by_cases hij : p = j
    · subst hij
      rw [World.cell?_setCell_same _ _ _ hc]
      rfl
    · rw [World.cell?_setCell_other _ _ _ _ (fun e => hij (by injection e))]
      exact (h.there j hj).1
  · have := (h.there j hj).2
    simpa using this
theorem verC_set {L : List Ver} : ∀ {i : Nat} {u u' : Ver} {j : Nat} {x : Value}, L[i]? = some u → j < 5 → verV u' = (verV u).set j x → (verC L).set (i * 5 + j) x = verC (L.set i u') := by
  induction L with
  | nil => intro i u u' j x h; simp at h
  | cons a L ih =>
    intro i u u' j x h hj hu
    have e : ∀ (a : Ver) (L : List Ver), verC (a :: L) = verV a ++ verC L := fun a L => by unfold verC; simp
    cases i with
    | zero =>
      have : a = u := by simpa using h
      subst this
      rw [List.set_cons_zero, e, e, hu, List.set_append_left _ _ (by simp [verV]; omega)]
      simp
    | succ i =>
      have h' : L[i]? = some u := by simpa using h
      rw [List.set_cons_succ, e, e, List.set_append_right _ _ (by simp [verV]; omega)]
      have e2 : (i + 1) * 5 + j - (verV a).length = i * 5 + j := by simp [verV]; omega
      rw [e2, ih h' hj hu]
/-- A field of a version is set. -/
theorem ChAt.setV {w : World} {c g cap : Nat} {L : List Ver} (h : ChAt w c (.slice (some ⟨g, 0, none⟩) L.length cap) L) {i j : Nat} {u u' : Ver} {x : Value} (hi : L[i]? = some u) (hj : j < 5) (hu : verV u' = (verV u).set j x) : ChAt (w.setCell ⟨g, i * 5 + j, none⟩ x) c (.slice (some ⟨g, 0, none⟩) (L.set i u').length cap) (L.set i u') := by
  have hil := (List.getElem?_eq_some_iff.1 hi).1
  have hgc : g ≠ c := fun e => h.off (by rw [e]; rfl)
  have hln : (L.set i u').length = L.length := List.length_set
  rw [hln]
  refine ⟨(Below.heap_setCell _ _ _ _ (fun e => hgc (Eq.symm (by simpa using e)))).trans h.head, ?_, fun e => hgc (by cases e; rfl)⟩
  rcases h.row with ⟨h1, _⟩ | ⟨g', cap', h1, h2, h3, hc⟩
  · cases h1
  · cases h1
    refine .inr ⟨g, cap, by rw [hln], by rw [verC_len], by rw [hln]; exact h3, ?_⟩
    rw [← verC_set hi hj hu]
    exact hc.setC (by rw [verC_len]; omega) x
theorem Touch.cell1 (w : World) (g p : Nat) (x : Value) : Touch (fun k => k = g) w (w.setCell ⟨g, p, none⟩ x) := (Touch.refl (fun k => k = g) w).setCell ⟨g, p, none⟩ (fun _ => rfl) _
/-- What find tells. -/
def findE (L : List Ver) (t : Int) : List Lk := if okT t = false then [.bnd 1073741824 t, .num 2] else if cnt L t = 0 then [.plc t, .num 22] else []
/-- An error that lies in blocks from B on alone. -/
def ErrNew (B : Nat) (w : World) (k : List Lk) (ev : Value) : Prop := ∀ W : World, (∀ b, B ≤ b → b < w.heap.size → W.heap[b]? = w.heap[b]?) → ErrIs W k ev
theorem ErrNew.is {B : Nat} {w : World} {k : List Lk} {ev : Value} (h : ErrNew B w k ev) : ErrIs w k ev := h w (fun _ _ _ => rfl)
theorem ErrNew.keep {B : Nat} {w W : World} {k : List Lk} {ev : Value} (h : ErrNew B w k ev) (hs : w.heap.size ≤ W.heap.size) (hk : ∀ b, B ≤ b → b < w.heap.size → W.heap[b]? = w.heap[b]?) : ErrNew B W k ev :=
  fun W2 h2 => h W2 (fun b h3 h4 => (h2 b h3 (by omega)).trans (hk b h3 h4))
theorem ErrNew.mono {B C : Nat} {w : World} {k : List Lk} {ev : Value} (h : ErrNew B w k ev) (hc : C ≤ B) : ErrNew C w k ev := fun W h2 => h W (fun b h3 h4 => h2 b (by omega) h4)
theorem errNew_bnd {B b : Nat} {w : World} {l g n : Int} (hb : B ≤ b) (h : w.heap[b]? = some (.cells #[.iface 85 (.agg #[.int .i64 n]), .int .i64 l, .int .i64 g] 100 (0, 0))) : ErrNew B w [.bnd l g, .num n] (.iface 98 (.pointer (some ⟨b, 0, none⟩))) :=
  fun W hk => ⟨by simp, b, _, rfl, (hk b hb (heap_lt h)).trans h, rfl, rfl⟩
theorem errNew_plc {B b : Nat} {w : World} {p n : Int} (hb : B ≤ b) (h : w.heap[b]? = some (.cells #[.iface 85 (.agg #[.int .i64 n]), .int .i64 p] 96 (0, 0))) : ErrNew B w [.plc p, .num n] (.iface 92 (.pointer (some ⟨b, 0, none⟩))) :=
  fun W hk => ⟨by simp, b, _, rfl, (hk b hb (heap_lt h)).trans h, rfl, rfl⟩
theorem errNew_late {B b d : Nat} {w : World} {p l g n : Int} (hb : B ≤ b) (hd : B ≤ d) (h : w.heap[b]? = some (.cells #[.iface 98 (.pointer (some ⟨d, 0, none⟩)), .int .i64 p] 96 (0, 0))) (h2 : w.heap[d]? = some (.cells #[.iface 85 (.agg #[.int .i64 n]), .int .i64 l, .int .i64 g] 100 (0, 0))) : ErrNew B w [.plc p, .bnd l g, .num n] (.iface 92 (.pointer (some ⟨b, 0, none⟩))) :=
  fun W hk => ⟨by simp, b, _, rfl, (hk b hb (heap_lt h)).trans h, by simp, d, _, rfl, (hk d hd (heap_lt h2)).trans h2, rfl, rfl⟩
set_option maxRecDepth 100000 in
set_option maxHeartbeats 4000000 in
theorem find_any {w : World} {c : Nat} {v : Value} {L : List Ver} {t : Int} (h : ChAt w c v L) (hr : Ris L) (hl : L.length ≤ 1000000) (ht : InR64 t) :
    Calls Tryd.prog 39 #[.pointer (some ⟨c, 0, none⟩), .int .i64 t] w fun e w' => ∃ i ev, e = .returned (.tuple #[.int .i64 i, ev]) ∧ ErrNew w.heap.size w' (findE L t) ev ∧ (findE L t = [] → i = (cnt L t : Int) - 1) ∧ Below w.heap.size w w' := by
  have HLA := Lib.hid (last_any (t := t) h hr hl)
  have hcl := cnt_le L t
  have hcI : (cnt L t : Int) ≤ 1000000 := by omega
  clear h
  by_cases ho : okT t = false
  · have hF : findE L t = [.bnd 1073741824 t, .num 2] := by unfold findE; rw [if_pos ho]
    rw [hF]
    have HN := Lib.hid (new_num 2 (by decide) w)
    have ho' : t < 1 ∨ 1073741824 < t := by
      unfold okT at ho
      simp at ho
      omega
    clear hF ho
    rcases ho' with h1 | h1
    · have q1 : (t < 1) = True := eq_true h1
      clear h1
      go_enter Tryd.func39, Tryd.ntmps39
      go_wp2_with fail
      refine (HN.out).mono ?_
      rintro e w1 ⟨rfl, rfl⟩
      have HBO := Lib.hid (bound_some 1073741824 t 85 (.agg #[.int .i64 2]) w)
      clear HN
      go_wp2_with fail
      refine (HBO.out).mono ?_
      rintro e w2 ⟨rfl, rfl⟩
      clear HBO
      go_wp2_with fail
      refine bodyPost_ret (v := .tuple #[.int .i64 0, .iface 98 (.pointer (some ⟨w.heap.size, 0, none⟩))]) (by simp [results, Tryd.results39, go_sem]) rfl ?_
      exact ⟨0, _, rfl, errNew_bnd (Nat.le_refl _) (alloc_at w _), (fun e => by cases e), below_new _⟩
    · have q1 : (t < 1) = False := eq_false (by omega)
      have q2 : (1073741824 < t) = True := eq_true h1
      clear h1
      go_enter Tryd.func39, Tryd.ntmps39
      go_wp2_with fail
      refine (HN.out).mono ?_
      rintro e w1 ⟨rfl, rfl⟩
      have HBO := Lib.hid (bound_some 1073741824 t 85 (.agg #[.int .i64 2]) w)
      clear HN
      go_wp2_with fail
      refine (HBO.out).mono ?_
      rintro e w2 ⟨rfl, rfl⟩
      clear HBO
      go_wp2_with fail
      refine bodyPost_ret (v := .tuple #[.int .i64 0, .iface 98 (.pointer (some ⟨w.heap.size, 0, none⟩))]) (by simp [results, Tryd.results39, go_sem]) rfl ?_
      exact ⟨0, _, rfl, errNew_bnd (Nat.le_refl _) (alloc_at w _), (fun e => by cases e), below_new _⟩
  · have h1 : 1 ≤ t ∧ t ≤ 1073741824 := by
      unfold okT at ho
      simp at ho
      exact ho
    have q1 : (t < 1) = False := eq_false (by omega)
    have q2 : (1073741824 < t) = False := eq_false (by omega)
    by_cases hz : cnt L t = 0
    · have hF : findE L t = [.plc t, .num 22] := by unfold findE; rw [if_neg ho, if_pos hz]
      rw [hF]
      rw [hz] at HLA
      clear hF hz ho h1 hcl hcI
      go_enter Tryd.func39, Tryd.ntmps39
      go_wp2_with fail
      refine (HLA.out).mono ?_
      rintro e w1 ⟨rfl, hb1⟩
      have HN := Lib.hid (new_num 22 (by decide) w1)
      have HB0 := Lib.hid hb1
      clear hb1 HLA
      go_wp2_with fail
      refine (HN.out).mono ?_
      rintro e w2 ⟨rfl, rfl⟩
      have HAT := Lib.hid (at_some t 85 (.agg #[.int .i64 22]) w1)
      clear HN
      go_wp2_with fail
      refine (HAT.out).mono ?_
      rintro e w3 ⟨rfl, rfl⟩
      clear HAT
      go_wp2_with fail
      refine bodyPost_ret (v := .tuple #[.int .i64 0, .iface 92 (.pointer (some ⟨w1.heap.size, 0, none⟩))]) (by simp [results, Tryd.results39, go_sem]) rfl ?_
      exact ⟨0, _, rfl, errNew_plc HB0.out.size (alloc_at w1 _), (fun e => by cases e), HB0.out.trans ((below_new _).mono HB0.out.size)⟩
    · have hF : findE L t = [] := by unfold findE; rw [if_neg ho, if_neg hz]
      rw [hF]
      have q3 : ((cnt L t : Int) - 1 < 0) = False := eq_false (by omega)
      have q4 : ((cnt L t : Int) < 1) = False := eq_false (by omega)
      clear hF hz ho h1 hcl
      go_enter Tryd.func39, Tryd.ntmps39
      go_wp2_with fail
      refine (HLA.out).mono ?_
      rintro e w1 ⟨rfl, hb1⟩
      have HB0 := Lib.hid hb1
      clear hb1 HLA
      go_wp2_with fail
      refine bodyPost_ret (v := .tuple #[.int .i64 ((cnt L t : Int) - 1), .nilIface]) (by simp [results, Tryd.results39, go_sem]) rfl ?_
      exact ⟨_, _, rfl, fun _ _ => rfl, fun _ => rfl, HB0.out⟩
end Go.Proofs.YtmaokoekbjjgfaaDoor
