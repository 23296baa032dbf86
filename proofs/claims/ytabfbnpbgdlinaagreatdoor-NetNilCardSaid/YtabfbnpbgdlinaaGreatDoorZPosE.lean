/- What may be asked of a box; a box that is made. The box: Open. -/
import Derived.Test.YtabfbnpbgdlinaaGreatDoorZPosC
import Derived.Test.YtabfbnpbgdlinaaGreatDoorZShk
set_option linter.unusedSimpArgs false
set_option linter.unusedVariables false
set_option linter.unnecessarySimpa false
namespace Go.Proofs.YtabfbnpbgdlinaaGreatDoor
open Go.RowKit Go.Shelf

/-- May that be asked? -/
def askM (m : MsgV) : Bool := decide (1 ≤ m.kd ∧ m.kd ≤ 4) && mayM m
/-- What asks and the like answer: nothing, or an error of that number. -/
def AskP (ok : Bool) (w : World) (e : Ending) (w' : World) : Prop := (ok = true ∧ e = .returned .nilIface ∧ Below w.heap.size w w') ∨ (ok = false ∧ ∃ v, e = .returned v ∧ ErrQ 2 w v w')
set_option maxRecDepth 100000 in
set_option maxHeartbeats 4000000 in
theorem asks_any {w : World} {v : Value} {m : MsgV} (hG : Glob w) (h : MsgIs w v m) :
    Calls Tryz.prog 83 #[v] w (AskP (askM m) w) := by
  have HMY := Lib.hid (fun W (hW : Below w.heap.size w W) => May_any (hG.below hW) (h.below hW))
  obtain ⟨tA, tc, oA, oc, rfl, ht, ho, hk⟩ := h
  have hE : ∀ W : World, ErrIs W [.num 2] (.iface 143 (.agg #[.int .i64 2])) := fun W => ⟨rfl, rfl⟩
  have HN := Lib.hid (fun W => new_num 2 (by decide) W)
  have HI := Lib.hid (fun W => in_some ⟨#[114, 101, 113, 117, 101, 115, 116]⟩ 143 (.agg #[.int .i64 2]) W)
  have HEND : Hid (∀ W W2 : World, Below w.heap.size w W → W2 = W.alloc (.cells #[.iface 143 (.agg #[.int .i64 2]), .string ⟨#[114, 101, 113, 117, 101, 115, 116]⟩] 185) → ErrQ 2 w (.iface 183 (.pointer (some ⟨W.heap.size, 0, none⟩))) W2) := Lib.hid (fun W W2 hW e => by
    subst e
    exact ⟨⟨_, _, rfl⟩, ⟨[.nam ⟨#[114, 101, 113, 117, 101, 115, 116]⟩, .num 2], ⟨by simp, _, _, rfl, alloc_at _ _, rfl, rfl⟩, numOk_cons (by simp) (numOk_one (by decide)), by simp, rfl⟩, hW.trans ((below_new _).mono hW.size)⟩)
  have ha : askM m = (decide (1 ≤ m.kd ∧ m.kd ≤ 4) && mayM m) := rfl
  obtain ⟨mb, hmb⟩ : ∃ b, mayM m = b := ⟨_, rfl⟩
  rw [hmb] at HMY ha
  obtain ⟨ab, hab⟩ : ∃ b, askM m = b := ⟨_, rfl⟩
  rw [hab] at ha ⊢
  have HA := Lib.hid ha
  obtain ⟨kd, fr, tt, g, nd, tr, lw, co, ti, tl, os⟩ := m
  simp only at HMY HA ⊢
  have hb0 := below_new (w := w) (.cells #[.int .i64 kd, .int .i64 fr, .int .i64 tt, .int .i64 g, .int .i64 nd, .int .i64 tr, .int .i64 lw, .int .i64 co, .int .i64 ti, .slice tA tl.length tc, .slice oA os.length oc] 50)
  have HB0 := Lib.hid hb0
  have hat := alloc_at w (.cells #[.int .i64 kd, .int .i64 fr, .int .i64 tt, .int .i64 g, .int .i64 nd, .int .i64 tr, .int .i64 lw, .int .i64 co, .int .i64 ti, .slice tA tl.length tc, .slice oA os.length oc] 50)
  have m0 := cell_of hat 0
  have m1 := cell_of hat 1
  have m2 := cell_of hat 2
  have m3 := cell_of hat 3
  have m4 := cell_of hat 4
  have m5 := cell_of hat 5
  have m6 := cell_of hat 6
  have m7 := cell_of hat 7
  have m8 := cell_of hat 8
  have m9 := cell_of hat 9
  have m10 := cell_of hat 10
  simp at m0 m1 m2 m3 m4 m5 m6 m7 m8 m9 m10
  clear ht ho hk hG ha hmb hab hb0 hat hE
  by_cases hk : 1 ≤ kd ∧ kd ≤ 4
  · have HAB : Hid (ab = mb) := Lib.hid (by rw [HA.out, decide_eq_true hk, Bool.true_and])
    have hk4 : kd = 1 ∨ kd = 2 ∨ kd = 3 ∨ kd = 4 := by omega
    clear hk
    cases mb with
    | true =>
      rcases hk4 with rfl | rfl | rfl | rfl
      all_goals
        go_enter Tryz.func83, Tryz.ntmps83
        go_wp2_with fail
        refine (HMY.out _ HB0.out).mono ?_
        rintro e w1 ⟨rfl, hb1⟩
        have HB1 := Lib.hid (HB0.out.trans (hb1.mono HB0.out.size))
        clear hb1
        go_wp2_with fail
        go_ret
        exact .inl ⟨HAB.out, rfl, HB1.out⟩
    | false =>
      rcases hk4 with rfl | rfl | rfl | rfl
      all_goals
        go_enter Tryz.func83, Tryz.ntmps83
        go_wp2_with fail
        refine (HMY.out _ HB0.out).mono ?_
        rintro e w1 ⟨rfl, hb1⟩
        have HB1 := Lib.hid (HB0.out.trans (hb1.mono HB0.out.size))
        clear hb1
        go_wp2_with fail
        refine (HN.out _).mono ?_
        rintro e w2 ⟨rfl, rfl⟩
        go_wp2_with fail
        refine (HI.out _).mono ?_
        rintro e w3 ⟨rfl, hw3⟩
        have H3 := Lib.hid (HEND.out _ _ HB1.out hw3.symm)
        clear hw3
        go_wp2_with fail
        go_ret
        exact .inr ⟨HAB.out, _, rfl, H3.out⟩
  · have HAB : Hid (ab = false) := Lib.hid (by rw [HA.out, decide_eq_false hk, Bool.false_and])
    have q1 : (kd == 1) = false := by simp; omega
    have q2 : (kd == 2) = false := by simp; omega
    have q3 : (kd == 3) = false := by simp; omega
    have q4 : (kd == 4) = false := by simp; omega
    clear hk
    go_enter Tryz.func83, Tryz.ntmps83
    go_wp2_with fail
    refine (HN.out _).mono ?_
    rintro e w2 ⟨rfl, rfl⟩
    go_wp2_with fail
    refine (HI.out _).mono ?_
    rintro e w3 ⟨rfl, hw3⟩
    have H3 : Hid (ErrQ 2 w (.iface 183 (.pointer (some ⟨w.heap.size + 1, 0, none⟩))) w3) := Lib.hid (by have h3 := HEND.out _ _ HB0.out hw3.symm; rwa [asz] at h3)
    clear hw3
    go_wp2_with fail
    go_ret
    exact .inr ⟨HAB.out, _, rfl, H3.out⟩
set_option maxRecDepth 100000 in
/-- A box that is made. -/
theorem pnew_ok {w : World} {ev : Int} (h1 : 1 ≤ ev) (h2 : ev ≤ 1000) : Calls Tryz.prog 38 #[.int .i64 ev] w fun e w' => ∃ b mp, e = .returned (.tuple #[.pointer (some ⟨b, 0, none⟩), .int .i64 0]) ∧ BoxAt w' b mp ev [] 0 (fun _ => False) ∧ w.heap.size ≤ b ∧ w.heap.size ≤ mp ∧ Below w.heap.size w w' := by
  have HW := Lib.hid (pwithin_ok (w := w) h1 h2)
  have hmm := @run_makeMap Tryz.prog
  clear h1 h2
  go_enter Tryz.func38, Tryz.ntmps38
  go_wp2_with fail
  refine (HW.out).mono ?_
  rintro e w1 ⟨rfl, rfl⟩
  go_wp2_with fail
  refine bodyPost_ret (v := .tuple #[.pointer (some ⟨w1.heap.size + 1, 0, none⟩), .int .i64 0]) (by simp [results, Tryz.results38, go_sem]) rfl ?_
  have hb : Below w1.heap.size w1 ((w1.alloc (.map #[] 0)).alloc (.cells #[.int .i64 ev, .map (some w1.heap.size)] 132)) := (below_new _).trans ((below_new _).mono (by rw [asz]; exact Nat.le_succ _))
  refine ⟨w1.heap.size + 1, w1.heap.size, rfl, ⟨?_, ?_, by simp, by simp, by simp, by simp, by simp, by simp, by simp, by simp, fun _ h => h.elim, ⟨id, id, by omega⟩, by simp⟩, by omega, by omega, hb⟩
  · have := alloc_at (w1.alloc (.map #[] 0)) (.cells #[.int .i64 ev, .map (some w1.heap.size)] 132)
    rwa [asz] at this
  · exact (MapIs.made Tryz.prog 3 w1).keep ((below_new _).block _ (by rw [asz]; exact Nat.lt_succ_self _))
end Go.Proofs.YtabfbnpbgdlinaaGreatDoor

namespace Go.Proofs.YtabfbnpbgdlinaaGreatDoor
open Go.RowKit Go.Sort Go.Shelf

theorem prow_own {w : World} {base : Nat} {e : TypeId} {z : Nat} {v : Value} {n : Nat} {xs : List Value} (h : w.ownsRow base e z v n xs) : RowIs w z v n xs ∧ ∀ g, v.ownBlock = some g → base ≤ g := by
  obtain ⟨h0, ⟨rfl, rfl⟩ | ⟨g, cap, cur, rfl, hg, hh, hn, hc, hs, ht⟩⟩ := h
  · exact ⟨.inl ⟨rfl, rfl, List.eq_nil_of_length_eq_zero (by simpa using h0)⟩, fun g h => by cases h⟩
  · refine ⟨.inr ⟨g, cap, rfl, h0, hn, heap_lt hh, by rw [h0]; exact Nat.mul_le_mul_right _ hn, hc, fun j b hj => ?_, fun j hj => ⟨?_, free0 hh j⟩⟩, fun g' h => by cases h; exact hg⟩
    · rw [cell_of hh]
      rw [← ht, List.getElem?_take] at hj
      split at hj
      · simpa using hj
      · cases hj
    · rw [cell_of hh, Array.getElem?_eq_getElem (by omega)]; rfl
theorem sortsP (m : Nat) : AnyZI.SortsIn Tryz.prog Tryz.sortedA_ren Fence.wide m :=
  ⟨fun blk off cap ss W hH hblk hsz => callsIn_wide.2 (AnyM.slices_Sort_int Tryz.sortA blk off cap ss W hH hblk hsz),
   fun p cap W => callsIn_wide.2 (AnyM.slices_Sort_int_none Tryz.sortA p cap W)⟩
theorem pkeys_any (mo : Option Nat) (W : World) : Calls Tryz.prog 87 #[.map mo] W fun e w' => e = .returned (.func (.func 120) #[] #[.pointer (some ⟨W.heap.size, 0, none⟩)]) ∧ w' = W.alloc (.cells #[.map mo] 130) :=
  callsIn_wide.1 (AnyZI.keys_in Tryz.keysA Fence.wide 5 trivial rfl mo W)
def anyP : Value → Option (DataW Unit × List MemPlace) := fun _ => some (.nil, [])
theorem powns_any {w : World} {m c : Nat} {L : List MapEntry} (h : MapIs Tryz.prog 3 w m L c) (hL : L.length ≤ maxLen) : w.ownsMap Tryz.prog 3 anyP m L.length (.map ((L.map (Go.WideElems.rg Tryz.prog 3 anyP)).foldr DataW.insert [])) := by
  refine ⟨L.toArray, c, h.at_, ⟨by simpa using hL, ⟨by simpa using h.born, by simpa using h.apart, by simpa using h.one⟩, fun x hx => ?_⟩, by simp, by simp⟩
  obtain ⟨l, hl⟩ := h.keys x (by simpa using hx)
  exact ⟨_, by unfold Go.WideElems.rd anyP; rw [hl]; rfl⟩
theorem pkeys_perm {w : World} {m c : Nat} {L : List Rq} (h : MapIs Tryz.prog 3 w m (L.map Rq.me) c) (hn : ∀ e ∈ L, mayM e.m = true) : (intKeys (.map (((L.map Rq.me).map (Go.WideElems.rg Tryz.prog 3 anyP)).foldr DataW.insert []) : DataW Unit)).Perm (L.map (·.m.g)) := by
  have h1 := (Go.WideShapes.sorted_perm ((L.map Rq.me).map (Go.WideElems.rg Tryz.prog 3 anyP))).map (fun p : Lit × DataW Unit => Go.intOf p.1)
  refine h1.trans ?_
  rw [List.map_map, List.map_map]
  refine List.Perm.of_eq (List.map_congr_left fun e he => ?_)
  have hb := mayM_g (hn e he)
  have := key_g (n := e.m.g) (by omega) (by omega)
  simp only [Function.comp, Go.WideElems.rg, Go.WideElems.rd, anyP, Rq.me, this]
  rfl
/-- What Open tells. -/
def OpenP (w : World) (L : List Rq) (x : Ending) (w' : World) : Prop := ∃ (v : Value) (ns : List Int), x = .returned v ∧ RowIs w' 1 v ns.length (ns.map (Value.int .i64)) ∧ ns.Perm (L.map (·.m.g)) ∧ ns.Pairwise (· ≤ ·) ∧ (∀ g, v.ownBlock = some g → w.heap.size ≤ g) ∧ Below w.heap.size w w'
theorem psorted_post {ss : List Int} {v : Value} {w' : World} {base : Nat} {L : List Rq} (hS : ss.Perm (L.map (·.m.g))) (hrow : w'.ownsRow base 3 1 v ss.length ((ss.mergeSort (fun x y => decide (x ≤ y))).map encZ)) :
    ∃ ns : List Int, RowIs w' 1 v ns.length (ns.map (Value.int .i64)) ∧ ns.Perm (L.map (·.m.g)) ∧ ns.Pairwise (· ≤ ·) ∧ ∀ g, v.ownBlock = some g → base ≤ g := by
  have hl := List.length_mergeSort (le := fun x y => decide (x ≤ y)) ss
  obtain ⟨h1, h2⟩ := prow_own hrow
  refine ⟨ss.mergeSort (fun x y => decide (x ≤ y)), by rw [hl]; exact h1, (List.mergeSort_perm _ _).trans hS, ?_, h2⟩
  have := List.pairwise_mergeSort (le := fun x y => decide (x ≤ y)) (by intro a b c; simp; omega) (by intro a b; simp; omega) ss
  exact this.imp (by simp)
set_option maxRecDepth 100000 in
set_option maxHeartbeats 1000000 in
theorem open_any {w : World} {b mp : Nat} {ev : Int} {L : List Rq} {c : Nat} {R : Nat → Prop} (h : BoxAt w b mp ev L c R) (hL : L.length ≤ 1000000) : Calls Tryz.prog 44 #[.pointer (some ⟨b, 0, none⟩)] w (OpenP w L) := by
  have hc : w.cell? ⟨b, 1, none⟩ = some (.map (some mp)) := cell_of h.head 1
  have HK := Lib.hid (pkeys_any (some mp) w)
  have HNO := Lib.hid (pnone_any h.head)
  have hb0 := below_new (w := w) (.cells #[.map (some mp)] 130)
  have hcb : (w.alloc (.cells #[.map (some mp)] 130)).cell? ⟨w.heap.size, 0, none⟩ = some (.map (some mp)) := cell_of (alloc_at w _) 0
  have hS : Calls Tryz.prog 75 #[.func (.func 120) #[] #[.pointer (some ⟨w.heap.size, 0, none⟩)]] (w.alloc (.cells #[.map (some mp)] 130)) (OpenP w L) := by
    have hm := h.map
    have hlt := MapIs.lt hm
    have hm' : MapIs Tryz.prog 3 (w.alloc (.cells #[.map (some mp)] 130)) mp (L.map Rq.me) c := hm.keep (Below.heap_alloc _ _ _ hlt)
    have h64 : (L.map Rq.me).length ≤ 1000000 := by rw [List.length_map]; exact hL
    have hown := powns_any hm' (by unfold maxLen; omega)
    have hsz : Maps.size (.map (((L.map Rq.me).map (Go.WideElems.rg Tryz.prog 3 anyP)).foldr DataW.insert []) : DataW Unit) ≤ 1000000 := Nat.le_trans hown.size_le h64
    have hseq : SeqGives Fence.wide 2 Tryz.prog 120 #[.pointer (some ⟨w.heap.size, 0, none⟩)] encZ (fun ss => ss.Perm (intKeys (.map (((L.map Rq.me).map (Go.WideElems.rg Tryz.prog 3 anyP)).foldr DataW.insert []) : DataW Unit))) (Maps.size (.map (((L.map Rq.me).map (Go.WideElems.rg Tryz.prog 3 anyP)).foldr DataW.insert []) : DataW Unit)) (w.alloc (.cells #[.map (some mp)] 130)) :=
      AnyZI.keys_gives (ρ := Tryz.keysA_ren) { Tryz.keysA with } Fence.wide _ trivial rfl (by omega) w.heap.size mp _ _ _ (by rw [asz]; omega) hcb hown
    have cS := AnyZI.sorted_in Tryz.sortedA Fence.wide 5 trivial trivial trivial trivial rfl (by omega) (sortsP _) (enters_of Tryz.func112 (by kernel_rfl) rfl) 120 #[.pointer (some ⟨w.heap.size, 0, none⟩)] trivial (enters_of Tryz.func120 (by kernel_rfl) rfl) _ _ (by unfold maxLen; omega) (by omega) _ hseq
    refine (callsIn_wide.1 cS).mono ?_
    rintro e w' ⟨v, ss, rfl, hp, hrow, hnil, hb⟩
    obtain ⟨ns, h1, h2, h3, h4⟩ := psorted_post (hp.trans (pkeys_perm hm h.may)) hrow
    exact ⟨v, ns, rfl, h1, h2, h3, fun g hg => by have := h4 g hg; rw [asz] at this; omega, hb0.trans (hb.mono hb0.size)⟩
  have HS := Lib.hid hS
  clear h hb0 hcb hS
  go_enter Tryz.func44, Tryz.ntmps44
  go_wp2_with fail
  refine (HNO.out).mono ?_
  rintro e w1 ⟨rfl, rfl⟩
  go_wp2_with fail
  refine (HK.out).mono ?_
  rintro e w1 ⟨rfl, rfl⟩
  go_wp2_with fail
  refine (HS.out).mono ?_
  rintro e w2 ⟨v, ns, rfl, h⟩
  have H := Lib.hid h
  clear h
  go_wp2
  go_ret
  exact ⟨v, ns, rfl, H.out⟩
set_option maxRecDepth 100000 in
theorem open_nil (w : World) : Calls Tryz.prog 44 #[.pointer none] w fun e w' => e = .returned (.slice none 0 0) ∧ w' = w := by
  have HNO := Lib.hid (pnone_nil w)
  go_enter Tryz.func44, Tryz.ntmps44
  go_wp2_with fail
  refine (HNO.out).mono ?_
  rintro e w1 ⟨rfl, rfl⟩
  go_wp2_with fail
  go_ret
  exact ⟨rfl, rfl⟩
end Go.Proofs.YtabfbnpbgdlinaaGreatDoor
