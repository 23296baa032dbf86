/- trie: build. -/
import Derived.Test.YtpploljennbpdaaDoorZTriX
set_option linter.unusedSimpArgs false
set_option linter.unusedVariables false
set_option linter.unnecessarySimpa false
namespace Go.Proofs.YtpploljennbpdaaDoor
open Go.RowKit Go.Shelf

/-- What Build says of paths. -/
def bcode (L : List Pth) : Int := if checkC L = 0 then (if goodP L then 0 else 42) else checkC L
theorem check_good {L : List Pth} (h : checkC L = 0) : L ≠ [] ∧ L.length ≤ 8 ∧ (∀ p ∈ L, p ≠ [] ∧ ∀ x ∈ p, 0 ≤ x ∧ x ≤ 255) ∧ (∀ p ∈ L, p.length ≤ 8) ∧ ∀ p ∈ L, p.Nodup := by
  unfold checkC at h
  split at h
  · cases h
  split at h
  · cases h
  split at h
  · cases h
  split at h
  · cases h
  split at h
  · cases h
  rename_i h1 h2 h3 h4 h5
  rw [Bool.not_eq_false, List.all_eq_true] at h2 h4 h5
  exact ⟨h1, by omega, fun p hp => of_decide_eq_true (h2 p hp), fun p hp => of_decide_eq_true (h4 p hp), fun p hp => of_decide_eq_true (h5 p hp)⟩
def BuiltP (L : List Pth) (w : World) (e : Ending) (w' : World) : Prop := Below w.heap.size w w' ∧ ((bcode L ≠ 0 ∧ ∃ ev, e = .returned (.tuple #[.agg #[.slice none 0 0], ev]) ∧ ErrN w.heap.size w' 4 (bcode L) ev) ∨ (bcode L = 0 ∧ ∃ v N, e = .returned (.tuple #[.agg #[v], .nilIface]) ∧ TrAt w' v N (treeP L) ∧ ∀ g, TrOwn v N g → w.heap.size < g))
theorem ErrN.deep {B d d' : Nat} {w : World} {code : Int} {v : Value} (h : ErrN B w d code v) (hd : d ≤ d') : ErrN B w d' code v := by
  obtain ⟨t, u, l, h1, h2, h3, h4⟩ := h
  exact ⟨t, u, l, h1, h2, by omega, h4⟩
theorem BuiltP.bad {L : List Pth} {w w' : World} {c : Int} {ev : Value} (h : bcode L = c) (h0 : c ≠ 0) (hb : Below w.heap.size w w') (he : ErrN w.heap.size w' 4 c ev) : BuiltP L w (.returned (.tuple #[.agg #[.slice none 0 0], ev])) w' := by
  subst h
  exact ⟨hb, .inl ⟨h0, ev, rfl, he⟩⟩
/-- The cell of the answer is written. -/
theorem told_below {w W : World} {o : Obj} (hres : W.heap[w.heap.size]? = some o) (hb : Below w.heap.size w W) (u : Value) : Below w.heap.size w (W.setCell ⟨w.heap.size, 0, none⟩ u) ∧ Touch (fun k => k = w.heap.size) W (W.setCell ⟨w.heap.size, 0, none⟩ u) := by
  have ht : Touch (fun k => k = w.heap.size) W (W.setCell ⟨w.heap.size, 0, none⟩ u) := (Touch.refl (fun k => k = w.heap.size) W).setCell ⟨w.heap.size, 0, none⟩ (fun _ => rfl) u
  exact ⟨hb.trans (ht.below (fun k hk => by omega) hb.size), ht⟩
theorem told_cell {W : World} {b : Nat} {u : Value} {t : TypeId} (hres : W.heap[b]? = some (.cells #[u] t (0, 0))) (u' : Value) : (W.setCell ⟨b, 0, none⟩ u').heap[b]? = some (.cells #[u'] t (0, 0)) := by
  have s2 := set_at hres 0 u'
  simp only [Array.setIfInBounds, List.size_toArray, List.length_cons, List.length_nil, Nat.zero_add, Nat.lt_add_one, dite_true, ↓reduceDIte] at s2
  exact s2
theorem told_err {W : World} {b d : Nat} {c : Int} {ev : Value} (he : ErrN (b + 1) W d c ev) (hb : b < W.heap.size) (u : Value) : ErrN b (W.setCell ⟨b, 0, none⟩ u) d c ev := by
  have ht : Touch (fun k => k = b) W (W.setCell ⟨b, 0, none⟩ u) := (Touch.refl (fun k => k = b) W).setCell ⟨b, 0, none⟩ (fun _ => rfl) u
  exact ErrN.mono (he.keep ht.size (fun k h1 h2 => ht.block k h2 (by omega))) (by omega)
theorem pre_take_snoc {E V : List Nat} {k e : Nat} (h : E.take k <+: V) (he : E[k]? = some e) (hv : V[k]? = some e) : E.take (k + 1) <+: V := by
  have hkE := (List.getElem?_eq_some_iff.1 he).1
  have hl : (E.take k).length = k := by rw [List.length_take]; omega
  rw [List.prefix_iff_eq_take] at h ⊢
  rw [hl] at h
  have h2 : (E.take (k + 1)).length = k + 1 := by rw [List.length_take]; omega
  rw [h2, List.take_add_one, List.take_add_one, he, hv, h]
theorem pre_not {E V : List Nat} {k e : Nat} (he : E[k]? = some e) (hv : V[k]? ≠ some e) : ¬ E <+: V := fun h => by
  obtain ⟨t, rfl⟩ := h
  exact hv (by rw [List.getElem?_append_left (List.getElem?_eq_some_iff.1 he).1]; exact he)
set_option maxRecDepth 100000 in
set_option maxHeartbeats 4000000 in
theorem build_any {w : World} {v : Value} {L : List Pth} (h : PsIs w v L) (hL : L.length ≤ 1000) (hl : ∀ p ∈ L, p.length ≤ 1000) : Calls Tryd.prog 27 #[v] w (BuiltP L w) := by
  obtain ⟨A, cap, rfl, hc1, hc2⟩ := h.form
  unfold maxLen at hc2
  have hLI : (L.length : Int) ≤ 1000 := by omega
  have hb0 := below_new (w := w) (.cells #[.slice none 0 0] 27)
  have hres0 := alloc_at w (.cells #[.slice none 0 0] 27)
  have HC := Lib.hid (check_any (h.below hb0) hL hl)
  have hs0 : (w.alloc (.cells #[.slice none 0 0] 27)).heap.size = w.heap.size + 1 := asz _ _
  have HB0 := Lib.hid hb0
  have HR0 := Lib.hid hres0
  have HH := Lib.hid h
  have HS0 := Lib.hid hs0
  clear h hl hb0 hres0 hs0
  go_enter Tryd.func27, Tryd.ntmps27
  go_wp2_with fail
  refine (HC.out).mono ?_
  rintro e w1 ⟨hb1, hr⟩
  have hres1 := (hb1.block _ (heap_lt HR0.out)).trans HR0.out
  have HB1 := Lib.hid (HB0.out.trans (hb1.mono HB0.out.size))
  have HR1 := Lib.hid hres1
  rcases hr with ⟨hc0, rfl⟩ | ⟨hc0, ev, rfl, he⟩
  · have HC0 := Lib.hid hc0
    obtain ⟨w3, hw3, hbx, hb3⟩ := tree_start w1
    have hsz1 : w.heap.size < w1.heap.size := heap_lt HR1.out
    have HW3 := Lib.hid hw3
    have hlp : LpA w (w1.heap.size + 1) L 0 0 (.slice none 0 0) (.slice (some ⟨w1.heap.size, 0, none⟩) 1 1) [newNd (-1) (-1)] w3 := by
      refine ⟨by rw [List.take_zero]; exact hbx, fun g hg => ?_, by omega, HB1.out.trans (hb3.mono HB1.out.size), (hb3.block _ hsz1).trans HR1.out, RowIs.nil _ _, fun g hg => by cases hg⟩
      rcases hg with e | ⟨x, hx, e⟩
      · have : w1.heap.size = g := Option.some.inj e
        omega
      · rw [List.mem_singleton.1 hx] at e; cases e
    have HLP := Lib.hid hlp
    obtain ⟨tb, htb⟩ : ∃ tb, tb = w1.heap.size + 1 := ⟨_, rfl⟩
    rw [← htb] at HLP
    have HTB := Lib.hid htb
    clear hb1 hres1 hc0 hw3 hbx hb3 hsz1 hlp htb
    go_wp2_with fail
    rw [← HW3.out, ← HTB.out]
    go_loopw [6, 23] (fun ev iv wr => ∃ (k : Nat) (v : Value) (N : List Nd), k ≤ L.length ∧ iv = .int .i64 k ∧ LpA w tb L k k ev v N wr) (fun _ iv _ => L.length - (intOf iv).toNat)
    case atStart => exact ⟨0, _, _, Nat.zero_le _, rfl, HLP.out⟩
    case round =>
      obtain ⟨k, v, N, hk, rfl, hlp⟩ := hrel
      obtain ⟨hL0, hL8, hf, h8, hs⟩ := check_good HC0.out
      by_cases hlt : k < L.length
      · have hx : L[k]? = some L[k] := List.getElem?_eq_getElem hlt
        generalize L[k] = p at hx
        have hpm := List.mem_of_getElem? hx
        obtain ⟨a, pv, rfl, hab, kc0, hps⟩ := HH.out.at hx
        have kc := (hlp.below.cell (p := a.add k) (by rw [add_block]; exact hab)).trans kc0
        have hal : Aloof tb v N pv := fun a' n c e hS => by
          subst e
          have hp0 : 0 < p.length := Nat.pos_of_ne_zero (fun e => (hf p hpm).1 (List.eq_nil_of_length_eq_zero e))
          obtain ⟨a2, e2, hb2, _⟩ := hps.at (List.getElem?_eq_getElem hp0)
          injection e2 with e2
          subst e2
          rcases hS with e | e
          · have := hlp.tbw; omega
          · have := hlp.own _ e; omega
        have hPl : (treeP (L.take k)).length ≤ 800 := by
          have h1 := tree_len (L.take k) (take_short h8 k)
          have h2 : (L.take k).length ≤ 8 := by rw [List.length_take]; omega
          omega
        have HA := Lib.hid (add_any hlp.bx hPl (hps.below hlp.below) (h8 p hpm) hal)
        have hidx : idxP (addP (treeP (L.take k)) p) p = idxP (treeP L) p := by rw [← tree_take hx]; exact idx_take h8 hx
        rw [hidx] at HA
        have hkI : (k : Int) < (L.length : Int) := by omega
        have HLT := Lib.hid hlt
        have HX := Lib.hid hx
        have HLK := Lib.hid hlp
        clear hL0 hL8 hf h8 hs hk hlt hx hpm hab kc0 hps hal hPl hidx hlp
        go_wp2_with fail
        refine (HA.out).mono ?_
        rintro e w4 ⟨rfl, hg⟩
        obtain ⟨v', N', hlp2⟩ := HLK.out.grow HX.out hg
        have hends := hlp2.ends
        rw [← natI_len] at hends
        obtain ⟨ev', w5, hrun, hr5, ht5, ho5⟩ := app_int (idxP (treeP L) p : Int) 24 hends (by rw [natI_len, endsK_len (Nat.le_of_lt HLT.out)]; have := HLT.out; omega)
        have HP := Lib.hid (hlp2.push HX.out hr5 ht5 ho5)
        clear hg hlp2 hends hr5 ht5 ho5
        go_wp2_with (at_builtin; refine wpList_app_run rfl _ _ _ _ rfl rfl rfl hrun ?_)
        go_roundw
        case rel => exact ⟨k + 1, v', N', HLT.out, by go_num, HP.out⟩
        case measure => have := HLT.out; simp [intOf]; omega
      · obtain rfl : k = L.length := by omega
        have hT := tree_ok L h8
        have hPl : (treeP L).length ≤ 1000 := by have := tree_len L h8; omega
        have hbx := hlp.bx
        rw [List.take_length] at hbx
        obtain ⟨gv, capv, rfl, _, _, _⟩ := hbx.tree.form
        have HLV := Lib.hid (Leaves_any hbx.tree hPl)
        have kt := hbx.cell
        have hends := hlp.ends
        rw [endsK_len (Nat.le_refl _), endsK_all] at hends
        have HEN := Lib.hid hends
        obtain ⟨eA, ecap, rfl, he1, he2, _, heA, hec⟩ := id hends.form
        unfold maxLen at he2
        have HBX := Lib.hid hbx
        have HLK := Lib.hid hlp
        have hVl : (leavesP (treeP L)).length ≤ 1000 := Nat.le_trans (length_le_of_nodup _ _ (leaves_nodup hT) (fun m hm => ((mem_leaves hT).1 hm).1)) hPl
        have HVL := Lib.hid hVl
        have HEC := Lib.hid hec
        have hn : ¬ (L.length : Int) < (L.length : Int) := by omega
        clear hL0 hL8 hf h8 hs hk hlt hT hPl hbx hends hlp heA hec hVl
        go_wp2_with fail
        refine (HLV.out).mono ?_
        rintro e w5 ⟨lv, rfl, hrow, hoff, hb5⟩
        have hres5 := (hb5.block _ (heap_lt HLK.out.res)).trans HLK.out.res
        have HR5 := Lib.hid hres5
        have HB5 := Lib.hid (HLK.out.below.trans (hb5.mono HLK.out.below.size))
        have ht5 : w5.cell? ⟨tb, 0, none⟩ = some _ := (hb5.cell (p := ⟨tb, 0, none⟩) (heap_lt HBX.out.head)).trans HBX.out.cell
        have HT5 := Lib.hid ht5
        have HTR := Lib.hid (HBX.out.tree.below hb5)
        obtain ⟨lA, lcap, rfl, hl1, hl2, _, _, hlc⟩ := id hrow.form
        unfold maxLen at hl2
        have HLC := Lib.hid hlc
        have HEC5 : Hid (∀ (i e : Nat), (endsP (treeP L) L)[i]? = some e → ∃ g, eA = some ⟨g, 0, none⟩ ∧ w5.cell? ⟨g, i, none⟩ = some (.int .i64 (e : Int))) := Lib.hid (fun i e hi => by
          obtain ⟨g, e1, e2⟩ := HEC.out i _ (natI_at hi)
          exact ⟨g, e1, (hb5.cell (p := ⟨g, i, none⟩) (heap_lt' e2)).trans e2⟩)
        have hVI : ((leavesP (treeP L)).length : Int) ≤ 1000 := by have := HVL.out; omega
        have hEl : (endsP (treeP L) L).length = L.length := by unfold endsP; rw [List.length_map]
        have HEL := Lib.hid hEl
        obtain ⟨E, hE⟩ : ∃ E, endsP (treeP L) L = E := ⟨_, rfl⟩
        obtain ⟨V, hV⟩ : ∃ V, leavesP (treeP L) = V := ⟨_, rfl⟩
        have HGD : Hid (goodP L ↔ E <+: V) := Lib.hid (by rw [← hE, ← hV]; exact Iff.rfl)
        rw [hE] at HEC5 HEL
        rw [hV] at HLC hVI hl1 ⊢
        have HBC : Hid ((E <+: V → bcode L = 0) ∧ (¬ E <+: V → bcode L = 42)) := Lib.hid ⟨fun hg => by unfold bcode; rw [if_pos HC0.out, if_pos (HGD.out.2 hg)], fun hg => by unfold bcode; rw [if_pos HC0.out, if_neg (fun e => hg (HGD.out.1 e))]⟩
        have hsz5 := HB5.out.size
        have HSZ5 := Lib.hid (heap_lt HR5.out)
        clear hrow hoff hb5 hres5 ht5 hlc hEl hE hV hsz5 kt
        go_wp2_with fail
        go_loopw [37] (fun iv wr => ∃ k : Nat, k ≤ L.length ∧ iv = .int .i64 k ∧ wr = w5 ∧ E.take k <+: V) (fun iv _ => L.length - (intOf iv).toNat)
        case atStart => exact ⟨0, Nat.zero_le _, rfl, rfl, by simp⟩
        case round =>
          obtain ⟨k, hk, rfl, rfl, hpre⟩ := hrel
          have HPRE := Lib.hid hpre
          by_cases hlt : k < L.length
          · have hx : E[k]? = some (E[k]'(by rw [HEL.out]; exact hlt)) := List.getElem?_eq_getElem _
            generalize E[k]'(by rw [HEL.out]; exact hlt) = y at hx
            obtain ⟨ge, rfl, ke⟩ := HEC5.out k y hx
            have hkI : (k : Int) < (L.length : Int) := by omega
            have HLT := Lib.hid hlt
            have HX := Lib.hid hx
            have HERR := Lib.hid (errAt (p := (k : Int)) (ErrN.num (w.heap.size + 1) wr (n := 42) (by decide)) HSZ5.out)
            have HNEW := Lib.hid (new_num 42 (by decide) wr)
            have HFAIL : Hid (∀ (W : World) (ev : Value), ErrN (w.heap.size + 1) W 2 42 ev → Below wr.heap.size wr W → ¬ E <+: V → BuiltP L w (.returned (.tuple #[.agg #[.slice none 0 0], ev])) (W.setCell ⟨w.heap.size, 0, none⟩ (.slice none 0 0)) ∧ (W.setCell ⟨w.heap.size, 0, none⟩ (.slice none 0 0)).cell? ⟨w.heap.size, 0, none⟩ = some (.slice none 0 0) ∧ W.cell? ⟨w.heap.size, 0, none⟩ = some (.slice none 0 0) ∧ W.frozen? ⟨w.heap.size, 0, none⟩ = false) := Lib.hid (fun W ev he hb hno => by
              have hr := (hb.block _ (heap_lt HR5.out)).trans HR5.out
              have hbw := HB5.out.trans (hb.mono HB5.out.size)
              exact ⟨BuiltP.bad (HBC.out.2 hno) (by decide) (told_below hr hbw _).1 ((told_err he (heap_lt hr) _).deep (by omega)), cell_of (told_cell hr _) 0, cell_of hr 0, free0 hr 0⟩)
            by_cases hv : k < V.length
            · have hvx : V[k]? = some V[k] := List.getElem?_eq_getElem hv
              generalize V[k] = z at hvx
              obtain ⟨gl, rfl, kl⟩ := HLC.out k _ (natI_at hvx)
              have hvI : (k : Int) < (V.length : Int) := by omega
              have hge : ¬ (V.length : Int) ≤ (k : Int) := by omega
              by_cases hyz : z = y
              · subst hyz
                have hb : ((z : Int) == (z : Int)) = true := beq_self_eq_true _
                have HT := Lib.hid (pre_take_snoc hpre hx hvx)
                clear hx hvx hpre hk hlt hv
                go_wp2_with fail
                go_roundw
                case rel => exact ⟨k + 1, HLT.out, by go_num, by first | rfl | trivial, HT.out⟩
                case measure => have := HLT.out; simp [intOf]; omega
              · have hb : ((z : Int) == (y : Int)) = false := by rw [beq_eq_false_iff_ne]; omega
                have HNO := Lib.hid (pre_not (V := V) hx (by rw [hvx]; intro e; injection e with e; exact hyz e))
                clear hx hvx hpre hk hlt hv hyz
                go_wp2_with fail
                refine (HNEW.out).mono ?_
                rintro e w6 ⟨rfl, rfl⟩
                go_wp2_with fail
                refine (HERR.out).mono ?_
                rintro e w7 ⟨ev, rfl, g1, g2⟩
                obtain ⟨b1, b2, b3, b4⟩ := HFAIL.out _ ev g1 g2 HNO.out
                have B1 := Lib.hid b1
                clear b1 g1 g2
                go_wp2_with fail
                refine bodyPost_ret (v := .tuple #[.agg #[.slice none 0 0], ev]) (by simp [results, Tryd.results27, go_sem, b2]) rfl B1.out
            · have hge : (V.length : Int) ≤ (k : Int) := by omega
              have HNO := Lib.hid (pre_not (V := V) hx (by rw [List.getElem?_eq_none (by omega)]; simp))
              clear hx hpre hk hlt hv
              go_wp2_with fail
              refine (HNEW.out).mono ?_
              rintro e w6 ⟨rfl, rfl⟩
              go_wp2_with fail
              refine (HERR.out).mono ?_
              rintro e w7 ⟨ev, rfl, g1, g2⟩
              obtain ⟨b1, b2, b3, b4⟩ := HFAIL.out _ ev g1 g2 HNO.out
              have B1 := Lib.hid b1
              clear b1 g1 g2
              go_wp2_with fail
              refine bodyPost_ret (v := .tuple #[.agg #[.slice none 0 0], ev]) (by simp [results, Tryd.results27, go_sem, b2]) rfl B1.out
          · obtain rfl : k = L.length := by omega
            have hg : E <+: V := by have := hpre; rw [← HEL.out, List.take_length] at this; exact this
            have HBC0 := Lib.hid (HBC.out.1 hg)
            have hn2 : ¬ (L.length : Int) < (L.length : Int) := by omega
            have q0 := cell_of HR5.out 0
            have f0 := free0 HR5.out 0
            have qt := HT5.out
            clear hpre hk hlt hg
            go_wp2_with fail
            obtain ⟨hb6, ht6⟩ := told_below HR5.out HB5.out (.slice (some ⟨gv, 0, none⟩) (treeP L).length capv)
            have hc6 := cell_of (told_cell HR5.out (.slice (some ⟨gv, 0, none⟩) (treeP L).length capv)) 0
            refine bodyPost_ret (v := .tuple #[.agg #[.slice (some ⟨gv, 0, none⟩) (treeP L).length capv], .nilIface]) (by simp [results, Tryd.results27, go_sem, hc6]) rfl ⟨hb6, .inr ⟨HBC0.out, _, N, rfl, HTR.out.touch ht6 (fun g hg e => by have := HLK.out.own g hg; omega), fun g hg => HLK.out.own g hg⟩⟩
  · obtain ⟨t, u, rfl⟩ := he.form
    have hbc : bcode L = checkC L := by unfold bcode; rw [if_neg hc0]
    have HBC := Lib.hid hbc
    have HC0 := Lib.hid hc0
    rw [HS0.out] at he
    have HT := Lib.hid (told_err (u := .slice none 0 0) he (heap_lt HR1.out))
    have HTB := Lib.hid (told_below HR1.out HB1.out (.slice none 0 0))
    have q0 := cell_of HR1.out 0
    have f0 := free0 HR1.out 0
    have HTC := Lib.hid (told_cell HR1.out (.slice none 0 0))
    clear hb1 hres1 he hc0 hbc
    go_wp2_with fail
    have q1 := cell_of HTC.out 0
    refine bodyPost_ret (v := .tuple #[.agg #[.slice none 0 0], .iface t u]) (by simp [results, Tryd.results27, go_sem, q1]) rfl (BuiltP.bad HBC.out HC0.out HTB.out.1 HT.out)
end Go.Proofs.YtpploljennbpdaaDoor
