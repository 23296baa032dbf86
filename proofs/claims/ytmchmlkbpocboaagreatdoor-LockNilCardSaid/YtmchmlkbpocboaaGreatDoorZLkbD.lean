/- lock: Edges. -/
import Derived.Test.YtmchmlkbpocboaaGreatDoorZLkbC
set_option linter.unusedSimpArgs false
set_option linter.unusedVariables false
set_option linter.unnecessarySimpa false
namespace Go.Proofs.YtmchmlkbpocboaaGreatDoor
open Go.RowKit Go.Sort Go.Shelf Go.Lib
open Go.Maps (Keyed)

theorem ltE_tot {x y : Eg} (h : ¬ ltE x y) (hne : x ≠ y) : ltE y x := by
  unfold ltE at *
  have : ¬ (x.1 = y.1 ∧ x.2 = y.2) := fun e => hne (Prod.ext e.1 e.2)
  omega
theorem dd_mem_of {E : List Eg} {y : Eg} (h : y ∈ Lib.compact E) : y ∈ E := by
  unfold Lib.compact Lib.compactUpTo at h
  obtain ⟨j, hj, rfl⟩ := List.mem_map.1 h
  have hjl := List.mem_range.1 (List.mem_filter.1 hj).1
  simp [hjl]
theorem dd_mem {E : List Eg} {y : Eg} (h : y ∈ E) : y ∈ Lib.compact E := by
  obtain ⟨j, hj⟩ := List.getElem?_of_mem h
  have hjl := (List.getElem?_eq_some_iff.1 hj).1
  have key : ∀ j, j < E.length → E.toArray[j]! ∈ Lib.compact E := by
    intro j
    induction j with
    | zero =>
      intro h0
      unfold Lib.compact Lib.compactUpTo
      refine List.mem_map.2 ⟨0, List.mem_filter.2 ⟨List.mem_range.2 h0, ?_⟩, rfl⟩
      exact Lib.keeps_lt_one _ 0 (by omega)
    | succ j ih =>
      intro h0
      by_cases he : E.toArray[j + 1]! = E.toArray[j]!
      · rw [he]
        exact ih (by omega)
      · unfold Lib.compact Lib.compactUpTo
        refine List.mem_map.2 ⟨j + 1, List.mem_filter.2 ⟨List.mem_range.2 h0, ?_⟩, rfl⟩
        exact Lib.keeps_pos (by simpa using he)
  have := key j hjl
  have e : E.toArray[j]! = y := by
    have h2 := (List.getElem?_eq_some_iff.1 hj).2
    simp [hjl, h2]
  rwa [e] at this
theorem dd_rises {E : List Eg} (hd : ∀ (i j : Nat) (x y : Eg), i < j → E[i]? = some x → E[j]? = some y → ¬ ltE y x) : ∀ m, m < E.length → (dd E (m + 1)).Pairwise ltE ∧ ∀ y ∈ dd E (m + 1), ∀ x, E[m]? = some x → y = x ∨ ltE y x
  | 0, hm => by
    rw [dd_one (by omega)]
    cases E with
    | nil => simp at hm
    | cons a E => exact ⟨List.pairwise_singleton _ _, fun y hy x hx => .inl (by simp at hy hx; rw [hy, hx])⟩
  | m + 1, hm => by
    obtain ⟨h1, h2⟩ := dd_rises hd m (by omega)
    have hx : E[m + 1]? = some E[m + 1] := List.getElem?_eq_getElem hm
    have hy : E[m]? = some (E[m]'(by omega)) := List.getElem?_eq_getElem _
    generalize E[m + 1] = x at hx
    generalize E[m]'(by omega) = y at hy
    have hnlt := hd m (m + 1) y x (by omega) hy hx
    rw [dd_step hx hy]
    by_cases e : x = y
    · rw [if_pos e, List.append_nil]
      refine ⟨h1, fun z hz x' hx' => ?_⟩
      rw [hx] at hx'
      cases hx'
      rw [e]
      exact h2 z hz y hy
    · rw [if_neg e]
      have hyx : ltE y x := ltE_tot hnlt e
      have hz : ∀ z ∈ dd E (m + 1), ltE z x := fun z hz => by
        rcases h2 z hz y hy with e2 | e2
        · rw [e2]; exact hyx
        · unfold ltE at *; omega
      refine ⟨?_, fun z hz' x' hx' => ?_⟩
      · rw [List.pairwise_append]
        refine ⟨h1, List.pairwise_singleton _ _, fun a ha b hb => ?_⟩
        rw [List.mem_singleton] at hb
        rw [hb]
        exact hz a ha
      · rw [hx] at hx'
        cases hx'
        rcases List.mem_append.1 hz' with hz' | hz'
        · exact .inr (hz z hz')
        · exact .inl (List.mem_singleton.1 hz')
theorem comp_rises {E : List Eg} (h : E.Pairwise fun x y => ¬ ltE y x) : (Lib.compact E).Pairwise ltE := by
  cases hl : E.length with
  | zero =>
    have : E = [] := List.eq_nil_of_length_eq_zero hl
    subst this
    exact List.Pairwise.nil
  | succ n =>
    rw [← dd_all, hl]
    refine (dd_rises (fun i j x y hij hi hj => ?_) n (by omega)).1
    obtain ⟨l1, e1⟩ := List.getElem?_eq_some_iff.1 hi
    obtain ⟨l2, e2⟩ := List.getElem?_eq_some_iff.1 hj
    have := List.pairwise_iff_getElem.1 h i j l1 l2 hij
    rwa [e1, e2] at this
/-- Rising rows of the same edges are one. -/
theorem edges_uniq : ∀ {l m : List Eg}, l.Pairwise ltE → m.Pairwise ltE → (∀ y, y ∈ l ↔ y ∈ m) → l = m
  | [], [], _, _, _ => rfl
  | [], y :: m, _, _, h => absurd ((h y).2 (List.mem_cons_self ..)) (by simp)
  | x :: l, [], _, _, h => absurd ((h x).1 (List.mem_cons_self ..)) (by simp)
  | x :: l, y :: m, hl, hm, h => by
    have ir : ∀ a : Eg, ¬ ltE a a := fun a => by unfold ltE; omega
    have tr : ∀ a b c : Eg, ltE a b → ltE b c → ltE a c := fun a b c => by unfold ltE; omega
    have hl2 := List.pairwise_cons.1 hl
    have hm2 := List.pairwise_cons.1 hm
    have e : x = y := by
      rcases List.mem_cons.1 ((h x).1 (List.mem_cons_self ..)) with e | h1
      · exact e
      · rcases List.mem_cons.1 ((h y).2 (List.mem_cons_self ..)) with e | h2
        · exact e.symm
        · exact absurd (tr _ _ _ (hl2.1 y h2) (hm2.1 x h1)) (ir _)
    subst e
    rw [edges_uniq hl2.2 hm2.2 (fun z => ?_)]
    constructor
    · intro hz
      rcases List.mem_cons.1 ((h z).1 (List.mem_cons_of_mem _ hz)) with e | h1
      · exact absurd (e ▸ hl2.1 z hz) (ir _)
      · exact h1
    · intro hz
      rcases List.mem_cons.1 ((h z).2 (List.mem_cons_of_mem _ hz)) with e | h1
      · exact absurd (e ▸ hm2.1 z hz) (ir _)
      · exact h1
theorem src_eds {w : World} {A : Option Addr} {c : Nat} {l : List Eg} (h : RowIs w 2 (.slice A l.length c) l.length (edC l)) : Src Tryz.prog 2 46 (.slice A l.length c) l.length (edC l) w := by
  rcases h with ⟨e, h1, _⟩ | ⟨g, cap, e, h1, h2, h3⟩
  · injection e with e1 e2 e3
    have : l = [] := List.eq_nil_of_length_eq_zero h1
    subst this
    subst e1
    exact Src.ofNil _ Tryz.underlying46 c
  · injection e with e1 e2 e3
    subst e1
    exact Src.ofSlice _ Tryz.underlying46 ⟨g, 0, none⟩ l.length c (edC l) (edC_len l) (fun j u hu => by rw [add0]; exact h3.holds j u hu) (edC_one l)
/-- Edges are put behind a row of edges. -/
theorem app_eds {w : World} {A B : Option Addr} {c d : Nat} {l m : List Eg} (ty : TypeId) (h : RowIs w 2 (.slice A l.length c) l.length (edC l)) (hs : RowIs w 2 (.slice B m.length d) m.length (edC m)) (hl : l.length + m.length ≤ 16777000) : ∃ A' c' w', (Builtin.append_ #[46, 46] ty #[.slice A l.length c, .slice B m.length d]).run Tryz.prog w = .ok (.slice A' (l ++ m).length c') w' ∧ RowIs w' 2 (.slice A' (l ++ m).length c') (l ++ m).length (edC (l ++ m)) ∧ Touch (fun k => (Value.slice A l.length c).ownBlock = some k) w w' ∧ (∀ k, (Value.slice A' (l ++ m).length c').ownBlock = some k → (Value.slice A l.length c).ownBlock = some k ∨ w.heap.size ≤ k) := by
  obtain ⟨v', w', hr, h2, h3, h4⟩ := run_append_row w 46 49 ty 46 Tryz.underlying46 infoE rfl (by omega) (by omega) (.slice A l.length c) l.length m.length (edC l) (edC m) (.slice B m.length d) h (src_eds hs) (by omega)
  obtain ⟨A', c', rfl, _⟩ := id h2.form
  rw [List.length_append]
  refine ⟨A', c', w', hr, by rw [edC_app]; exact h2, (Touch.refl _ _).grown h3 (fun k hk _ => hk), fun k hk => ?_⟩
  rcases h4 with e | e
  · exact .inl (e ▸ hk)
  · right
    rw [e] at hk
    have := Option.some.inj hk
    omega
/-- The edges of the lanes that came. -/
def EdP (P : List Le) (E : List Eg) : Prop := (∀ e, e ∈ E ↔ ∃ x ∈ P, e ∈ edgesP x.l) ∧ E.length ≤ P.length * 40000
def EdgesT (w : World) (T : Tb) (e : Ending) (w' : World) : Prop := ∃ A c E, e = .returned (.slice A E.length c) ∧ RowIs w' 2 (.slice A E.length c) E.length (edC E) ∧ (∀ g, (Value.slice A E.length c).ownBlock = some g → w.heap.size ≤ g) ∧ E.Pairwise ltE ∧ (∀ x, x ∈ E ↔ ∃ kl ∈ T.lanes, x ∈ edgesP kl.2) ∧ Below w.heap.size w w'
set_option maxRecDepth 100000 in
set_option maxHeartbeats 4000000 in
theorem Edges_any {w : World} {tb gl gw : Nat} {L : List Le} {WT : List Wt} {ro : Nat → Nat} (h : TbAt w tb gl gw L WT ro) (hf : Few 200 L WT) : Calls Tryz.prog 18 #[.pointer (some ⟨tb, 0, none⟩)] w (EdgesT w (tbOf L WT)) := by
  have t0 : w.cell? ⟨tb, 0, none⟩ = some (.map (some gl)) := cell_of h.head 0
  obtain ⟨M, c, hm, hmL⟩ := h.lanes
  have HT := Lib.hid h
  have HM := Lib.hid hm
  have HML := Lib.hid hmL
  have HF := Lib.hid hf
  clear h hm hmL hf
  go_enter Tryz.func18, Tryz.ntmps18
  go_wp2_with (at_range; refine wpList_map_start _ rfl _ 61 rfl Tryz.underlying61 HM.out rfl ?_; intro w2 hit2 hb2 hz2)
  have HI2 := Lib.hid hit2
  have HB2 := Lib.hid hb2
  have HIT : Hid (w.heap.size < w2.heap.size) := Lib.hid (by rw [hz2]; omega)
  have HGL : Hid (gl < w.heap.size) := Lib.hid HM.out.lt
  clear hit2 hb2 hz2 t0
  generalize hit : w.heap.size = it at *
  have HITE := Lib.hid hit
  clear hit
  try go_frame
  go_loopg [3] (left M #[]) (fun g s wr => ∃ (seen : Array Nat) (P : List Le) (A : Option Addr) (c' : Nat) (E : List Eg), g = left M seen ∧ s = .slice A E.length c' ∧ RowIs wr 2 (.slice A E.length c') E.length (edC E) ∧ (∀ g, (Value.slice A E.length c').ownBlock = some g → it < g) ∧ Came M L seen P ∧ EdP P E ∧ IterAt wr it (some gl) c seen ∧ Below it w wr)
  case atStart => exact ⟨#[], [], none, 0, [], rfl, rfl, RowIs.nil _ _, (fun g e => by cases e), Came.start M L, ⟨fun e => by simp, by simp⟩, HI2.out, HB2.out⟩
  case round =>
    obtain ⟨seen, P, A3, c3, E, rfl, rfl, hrw, hro, hcame, hed, hit3, hb3⟩ := hrel
    obtain ⟨wi, rfl⟩ : ∃ wi, wi = wr := ⟨_, rfl⟩
    have HR3 := Lib.hid (And.intro hrw hro)
    have HC3 := Lib.hid hcame
    have HED := Lib.hid hed
    have HI3 := Lib.hid hit3
    have HB3 := Lib.hid hb3
    have hPL : P.length ≤ 200 := by have := hcame.sub.1; have := HF.out.1; omega
    have HPL := Lib.hid hPL
    have hEL : E.length ≤ 200 * 40000 := Nat.le_trans hed.2 (Nat.mul_le_mul_right _ hPL)
    have HEL := Lib.hid hEL
    clear hrw hro hcame hed hit3 hb3 HI2 HB2 hPL hEL
    go_wp2_with (at_next; refine wpList_map_step _ rfl _ rfl (HM.out.keep (HB3.out.block _ HGL.out)) HI3.out (by have := HGL.out; omega) rfl ?_ ?_)
    · intro hall
      have hp := HC3.out.done (pair_len HML.out) hall
      have HPP := Lib.hid hp
      have HSO := Lib.hid (esort_any HR3.out.1 (by have := HEL.out; omega))
      clear hall hp
      go_wp2_with fail
      refine (HSO.out).mono ?_
      rintro e w4 ⟨rfl, S, hperm, hsrt, hr4, ht4⟩
      have hsl : S.length = E.length := hperm.length_eq
      rw [← hsl] at hr4 ⊢
      have HCO := Lib.hid (comp_any (A := A3) (c := c3) (E := S) hr4 (by have := HEL.out; omega))
      have HPERM := Lib.hid (And.intro hperm (And.intro hsrt ht4))
      have HSL := Lib.hid hsl
      clear hperm hsrt hr4 ht4
      clear hsl
      go_wp2_with fail
      refine (HCO.out).mono ?_
      rintro e w5 ⟨A5, c5, rfl, hr5, ho5, ht5⟩
      have HF5 : Hid (EdgesT w (tbOf L WT) (.returned (.slice A5 (Lib.compact S).length c5)) w5) := Lib.hid (by
        have hown : ∀ g, (Value.slice A3 S.length c3).ownBlock = some g → it < g := fun g hg => by rw [HSL.out] at hg; exact HR3.out.2 g hg
        refine ⟨A5, c5, Lib.compact S, rfl, hr5, fun g hg => by have := hown g (ho5 g hg); rw [HITE.out]; omega, comp_rises HPERM.out.2.1, fun x => ?_, ?_⟩
        · constructor
          · intro hx
            obtain ⟨y, hy, h1⟩ := (HED.out.1 x).1 (HPERM.out.1.subset (dd_mem_of hx))
            exact ⟨(y.key, y.l), List.mem_map.2 ⟨y, HPP.out.subset hy, rfl⟩, h1⟩
          · rintro ⟨kl, hkl, h1⟩
            obtain ⟨y, hy, rfl⟩ := List.mem_map.1 hkl
            exact dd_mem (HPERM.out.1.symm.subset ((HED.out.1 x).2 ⟨y, HPP.out.symm.subset hy, h1⟩))
        · have h1 := HB3.out
          rw [← HITE.out] at h1
          have h2 := HPERM.out.2.2
          refine (h1.trans (h2.below (fun i hi => ?_) h1.size)).trans (ht5.below (fun i hi => ?_) (Nat.le_trans h1.size h2.size))
          · have := HR3.out.2 i hi; rw [HITE.out]; omega
          · have := hown i hi; rw [HITE.out]; omega)
      clear hr5 ho5 ht5
      go_wp2_with fail
      refine bodyPost_ret (v := .slice A5 (Lib.compact S).length c5) (by simp [results, Tryz.results18, go_sem]) rfl HF5.out
    · intro m hmm hs w4 hit4 ht4 hz4 hen
      obtain ⟨j, x, hj, hx, hmk, hmv⟩ := pair_idx HML.out hmm
      have HST := Lib.hid (HC3.out.step HM.out.apart hj hx hs)
      have hb4 : Below it w w4 := HB3.out.trans (ht4.below (fun i hi => Nat.le_of_eq hi.symm) (Nat.le_of_lt HI3.out.lt))
      have HR4 := Lib.hid (And.intro (HR3.out.1.iter HI3.out ht4) HR3.out.2)
      have HI4 := Lib.hid hit4
      have HB4 := Lib.hid hb4
      have hxm := List.mem_of_getElem? hx
      have hfx := HF.out.2.2 x hxm
      have HED4 := Lib.hid (edges_any ((HT.out.ln x hxm).below (by rw [HITE.out]; exact hb4)) (by omega) (by omega))
      have HFX := Lib.hid hfx
      replace hen : (Instr.entry (.pointer (some ⟨it, 0, none⟩))).run Tryz.prog w4 = .ok (.tuple #[strV x.key, .pointer (some ⟨x.b, 0, none⟩)]) w4 := by
        rw [hmk, hmv] at hen
        exact hen
      rw [hmk, hmv]
      obtain ⟨XK, hXK⟩ : ∃ XK, (⟨x.key.toArray⟩ : ByteArray) = XK := ⟨_, rfl⟩
      have hXV : strV x.key = .string XK := by unfold strV; rw [hXK]
      rw [hXV] at hen
      rw [hXV]
      unfold Le.ptr
      clear hmm hs hit4 ht4 hz4 hj hx hmk hmv hb4 hxm hfx hXV hXK
      go_wp2_with fail
      refine (HED4.out).mono ?_
      rintro e w5 ⟨s5, E5, rfl, ⟨A5, c5, rfl, hr5, ho5⟩, hok5, hb5⟩
      have hE5 : E5.length ≤ 40000 := by
        have h1 := hok5.2
        have h2 := HFX.out
        have h3 : x.l.row.length * (x.l.held.length + x.l.row.length) ≤ 200 * 200 := Nat.mul_le_mul (by omega) (by omega)
        omega
      have hrS : RowIs w5 2 (.slice A3 E.length c3) E.length (edC E) := HR4.out.1.below hb5
      obtain ⟨A6, c6, w6, hr6, hrow6, ht6, ho6⟩ := app_eds 46 hrS hr5 (by have := HEL.out; omega)
      have HRUN := Lib.hid hr6
      have HR6 : Hid (RowIs w6 2 (.slice A6 (E ++ E5).length c6) (E ++ E5).length (edC (E ++ E5)) ∧ ∀ g, (Value.slice A6 (E ++ E5).length c6).ownBlock = some g → it < g) := Lib.hid ⟨hrow6, fun g hg => (ho6 g hg).elim (HR4.out.2 g) (fun e => Nat.lt_of_lt_of_le (Nat.lt_of_lt_of_le HI4.out.lt hb5.size) e)⟩
      have HI6 := Lib.hid (IterAt.keep _ (IterAt.keep _ HI4.out (hb5.block it HI4.out.lt)) (ht6.block it (Nat.lt_of_lt_of_le HI4.out.lt hb5.size) (fun e => by have h7 := HR4.out.2 _ e; omega)))
      have HB6 := Lib.hid ((HB4.out.trans (hb5.mono (Nat.le_of_lt HI4.out.lt))).trans (ht6.below (fun i hi => by have h7 := HR4.out.2 _ hi; omega) (Nat.le_of_lt (Nat.lt_of_lt_of_le HI4.out.lt hb5.size))))
      have HEP : Hid (EdP (P ++ [x]) (E ++ E5)) := Lib.hid (by
        refine ⟨fun e => ?_, ?_⟩
        · rw [List.mem_append, HED.out.1, hok5.1, ← edges_mem]
          constructor
          · rintro (⟨y, hy, h1⟩ | h1)
            · exact ⟨y, List.mem_append_left _ hy, h1⟩
            · exact ⟨x, by simp, h1⟩
          · rintro ⟨y, hy, h1⟩
            rcases List.mem_append.1 hy with hy | hy
            · exact .inl ⟨y, hy, h1⟩
            · rw [List.mem_singleton.1 hy] at h1; exact .inr h1
        · have := HED.out.2
          rw [List.length_append, List.length_append, List.length_singleton, Nat.add_mul]
          omega)
      clear hr5 ho5 hok5 hb5 hE5 hrS hr6 hrow6 ht6 ho6
      go_wp2_with (at_builtin; refine wpList_app_run rfl _ _ _ _ rfl rfl rfl HRUN.out ?_)
      go_roundg (left M (seen.push m.born))
      case measure => have := HST.out.2; omega
      case rel => exact ⟨seen.push m.born, P ++ [x], A6, c6, E ++ E5, rfl, by simp, HR6.out.1, HR6.out.2, HST.out.1, HEP.out, HI6.out, HB6.out⟩
end Go.Proofs.YtmchmlkbpocboaaGreatDoor
