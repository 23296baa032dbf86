/- What the law of orders keeps in lists: own, without. -/
import Derived.Test.YtmaokoekbjjgfaaDoorZChcA
import Derived.Test.YtmaokoekbjjgfaaDoorZTak
import Derived.Test.YtmaokoekbjjgfaaDoorZEnD
set_option linter.unusedSimpArgs false
set_option linter.unusedVariables false
set_option linter.unnecessarySimpa false
namespace Go.Proofs.YtmaokoekbjjgfaaDoor
open Go.RowKit

def gotV (g : GotP) : List Value := [.int .i64 g.at_, .int .i64 g.n, .bool g.there]
def gotC (l : List GotP) : List Value := l.flatMap gotV
theorem gotC_len (l : List GotP) : (gotC l).length = l.length * 3 := by
  unfold gotC
  induction l with
  | nil => rfl
  | cons e l ih => rw [List.flatMap_cons, List.length_append, ih, List.length_cons]; simp [gotV]; omega
theorem gotC_get {l : List GotP} : ∀ {i : Nat} {e : GotP}, l[i]? = some e → (gotC l)[i * 3]? = some (.int .i64 e.at_) ∧ (gotC l)[i * 3 + 1]? = some (.int .i64 e.n) ∧ (gotC l)[i * 3 + 2]? = some (.bool e.there) := by
  induction l with
  | nil => intro i e h; simp at h
  | cons x l ih =>
    intro i e h
    cases i with
    | zero =>
      obtain rfl : x = e := by simpa using h
      exact ⟨rfl, rfl, rfl⟩
    | succ i =>
      rw [List.getElem?_cons_succ] at h
      have := ih h
      rw [show (i + 1) * 3 = i * 3 + 3 from by omega]
      exact this
theorem gotC_snoc (l : List GotP) (e : GotP) : gotC (l ++ [e]) = gotC l ++ gotV e := by unfold gotC; simp
theorem infoG : (Tryd.prog.info? 40).map (fun i => (i.zero, i.size, i.bytes)) = some (some (.agg #[.int .i64 0, .int .i64 0, .bool false]), 3, 24) := by kernel_rfl
/-- A list of what was got, in memory. -/
def GIs (w : World) (v : Value) (l : List GotP) : Prop := RowIs w 3 v l.length (gotC l)
theorem GIs.got {w : World} {v : Value} {l : List GotP} (h : GIs w v l) {i : Nat} {u : GotP} (hi : l[i]? = some u) : ∃ g cap, v = .slice (some ⟨g, 0, none⟩) l.length cap ∧ l.length ≤ cap ∧ cap ≤ maxLen ∧ v.ownBlock = some g ∧ w.cell? ⟨g, i * 3, none⟩ = some (.int .i64 u.at_) ∧ w.cell? ⟨g, i * 3 + 1, none⟩ = some (.int .i64 u.n) ∧ w.cell? ⟨g, i * 3 + 2, none⟩ = some (.bool u.there) := by
  rcases h with ⟨rfl, h1, h2⟩ | ⟨g, cap, rfl, h1, h2, hc⟩
  · have := (List.getElem?_eq_some_iff.1 hi).1
    omega
  · have hg := gotC_get hi
    exact ⟨g, cap, rfl, h2, hc.max, rfl, hc.holds _ _ hg.1, hc.holds _ _ hg.2.1, hc.holds _ _ hg.2.2⟩
theorem app_got {w : World} {v : Value} {l : List GotP} (x : GotP) (ty : TypeId) (h : GIs w v l) (hl : l.length ≤ 1000000) : ∃ v' w', (Builtin.append_ #[35, 35] ty #[v, .slice (some ⟨w.heap.size, 0, none⟩) 1 1]).run Tryd.prog (w.alloc (.cells #[.int .i64 x.at_, .int .i64 x.n, .bool x.there] 40)) = .ok v' w' ∧ GIs w' v' (l ++ [x]) ∧ Touch (fun k => v.ownBlock = some k) w w' ∧ (∀ k, v'.ownBlock = some k → v.ownBlock = some k ∨ w.heap.size ≤ k) := by
  have hb := below_new (w := w) (.cells #[.int .i64 x.at_, .int .i64 x.n, .bool x.there] 40)
  have hsrc : Src Tryd.prog 3 35 (.slice (some ⟨w.heap.size, 0, none⟩) 1 1) 1 [.int .i64 x.at_, .int .i64 x.n, .bool x.there] (w.alloc (.cells #[.int .i64 x.at_, .int .i64 x.n, .bool x.there] 40)) :=
    Src.ofSlice _ Tryd.underlying35 ⟨w.heap.size, 0, none⟩ 1 1 [.int .i64 x.at_, .int .i64 x.n, .bool x.there] rfl (fun j u hu => by
      rw [add0, cell_of (alloc_at w _)]
      simpa using hu) (by simp [Value.oneCell'])
  obtain ⟨v', w', hr, h2, h3, h4⟩ := run_append_row (w.alloc (.cells #[.int .i64 x.at_, .int .i64 x.n, .bool x.there] 40)) 35 40 ty 35 Tryd.underlying35 infoG rfl (by omega) (by omega) v l.length 1 (gotC l) [.int .i64 x.at_, .int .i64 x.n, .bool x.there] _ (RowIs.below h hb) hsrc (by omega)
  refine ⟨v', w', hr, by unfold GIs; rw [List.length_append, gotC_snoc]; exact h2, (Touch.of_below hb).grown h3 (fun k hk _ => hk), fun k hk => ?_⟩
  rcases h4 with e | e
  · exact .inl (e ▸ hk)
  · right
    rw [e] at hk
    have := Option.some.inj hk
    rw [asz] at this
    omega
def got0 : GotP := ⟨0, 0, false⟩
def gotA (g : GotP) : Value := .agg #[.int .i64 g.at_, .int .i64 g.n, .bool g.there]
def ownA (o : Option GotP) : Value := gotA (o.getD got0)
theorem own_at {l : List GotP} {t : Int} {k : Nat} {y : GotP} (hk : l[k]? = some y) (hno : ownP (l.take k) t = none) : ownP (l.take (k + 1)) t = if y.at_ = t then some y else none := by
  have h1 := (List.getElem?_eq_some_iff.1 hk).1
  unfold ownP at hno ⊢
  rw [List.take_succ_eq_append_getElem h1, (List.getElem?_eq_some_iff.1 hk).2, List.find?_append, hno]
  by_cases e : y.at_ = t
  · simp [e]
  · simp [e]
theorem own_hit {l : List GotP} {t : Int} {k : Nat} {y : GotP} (hk : l[k]? = some y) (hno : ownP (l.take k) t = none) (e : y.at_ = t) : ownP l t = some y := by
  have h := own_at hk hno
  rw [if_pos e] at h
  unfold ownP at h ⊢
  have h2 : l = l.take (k + 1) ++ l.drop (k + 1) := (List.take_append_drop _ _).symm
  rw [h2, List.find?_append, h]
  rfl
theorem without_at {l : List GotP} {t : Int} {k : Nat} {y : GotP} (hk : l[k]? = some y) : withoutP (l.take (k + 1)) t = if y.at_ = t then withoutP (l.take k) t else withoutP (l.take k) t ++ [y] := by
  have h1 := (List.getElem?_eq_some_iff.1 hk).1
  unfold withoutP
  rw [List.take_succ_eq_append_getElem h1, (List.getElem?_eq_some_iff.1 hk).2, List.filter_append]
  by_cases e : y.at_ = t
  · simp [e]
  · simp [e]
theorem without_len (l : List GotP) (t : Int) : (withoutP l t).length ≤ l.length := List.length_filter_le _ _
/-- What was got is stored whole. -/
def put3 (W : World) (b : Nat) (x0 x1 x2 : Value) : World := ((W.setCell ⟨b, 0, none⟩ x0).setCell ⟨b, 1, none⟩ x1).setCell ⟨b, 2, none⟩ x2
theorem put3_at {W : World} {b : Nat} {y0 y1 y2 : Value} {T : TypeId} (h : W.heap[b]? = some (.cells #[y0, y1, y2] T (0, 0))) (x0 x1 x2 : Value) : (put3 W b x0 x1 x2).heap[b]? = some (.cells #[x0, x1, x2] T (0, 0)) := by
  have h0 := set_at h 0 x0
  have h1 := set_at h0 1 x1
  have h2 := set_at h1 2 x2
  simpa [put3] using h2
theorem put3_below {W w : World} {b : Nat} (hb : Below w.heap.size w W) (hl : w.heap.size ≤ b) (x0 x1 x2 : Value) : Below w.heap.size w (put3 W b x0 x1 x2) :=
  ((hb.setCell (p := ⟨b, 0, none⟩) hl _).setCell (p := ⟨b, 1, none⟩) hl _).setCell (p := ⟨b, 2, none⟩) hl _
set_option maxRecDepth 100000 in
set_option maxHeartbeats 4000000 in
theorem own_any {w : World} {v : Value} {l : List GotP} {t : Int} (h : GIs w v l) (hl : l.length ≤ 1000000) : Calls Tryd.prog 15 #[v, .int .i64 t] w fun e w' => e = .returned (.tuple #[ownA (ownP l t), .bool (ownP l t).isSome]) ∧ Below w.heap.size w w' := by
  obtain ⟨A, cap, rfl, h1, h2, _⟩ := id (RowIs.form h)
  unfold maxLen at h2
  obtain ⟨d, hd⟩ : ∃ d, ownP l t = d := ⟨_, rfl⟩
  rw [hd]
  have HD := Lib.hid hd
  clear hd
  have HH := Lib.hid h
  have hl' : (l.length : Int) ≤ 1000000 := by omega
  go_enter Tryd.func15, Tryd.ntmps15
  go_wp2_with fail
  go_loopw [10] (fun iv wr => ∃ k : Nat, k ≤ l.length ∧ iv = .int .i64 k ∧ ownP (l.take k) t = none ∧ wr.heap[w.heap.size]? = some (.cells #[.int .i64 0, .int .i64 0, .bool false] 40 (0, 0)) ∧ Below w.heap.size w wr) (fun iv _ => l.length - (intOf iv).toNat)
  case atStart => exact ⟨0, Nat.zero_le _, rfl, rfl, alloc_at w _, below_new _⟩
  case round =>
    obtain ⟨k, hk, rfl, hno, hz, hb⟩ := hrel
    have HNO := Lib.hid hno
    have HZ := Lib.hid hz
    have HB := Lib.hid hb
    by_cases hlt : k < l.length
    · have hx : l[k]? = some l[k] := List.getElem?_eq_getElem hlt
      generalize l[k] = y at hx
      have HLT := Lib.hid hlt
      obtain ⟨g, cap', e0, _, _, _, k0, k1, k2⟩ := GIs.got (RowIs.below HH.out hb) hx
      injection e0 with e0 _ e1
      subst e0 e1
      have hi : (k : Int) < (l.length : Int) := by omega
      have hbn := below_new (w := wr) (.cells #[.int .i64 y.at_, .int .i64 y.n, .bool y.there] 40)
      have hb2 : Below w.heap.size w (wr.alloc (.cells #[.int .i64 y.at_, .int .i64 y.n, .bool y.there] 40)) := hb.trans (hbn.mono hb.size)
      have hz2 : (wr.alloc (.cells #[.int .i64 y.at_, .int .i64 y.n, .bool y.there] 40)).heap[w.heap.size]? = _ := (hbn.block w.heap.size (heap_lt hz)).trans hz
      have HB2 := Lib.hid hb2
      have HZ2 := Lib.hid hz2
      have c0 := cell_of hz2 0
      have c1 := cell_of hz2 1
      have c2 := cell_of hz2 2
      have f0 := free0 hz2 0
      have f1 := free0 hz2 1
      have f2 := free0 hz2 2
      simp at c0 c1 c2
      by_cases he : y.at_ = t
      · have hq : (y.at_ == t) = true := by rw [he]; exact beq_self_eq_true t
        have HDT : d = some y := by rw [← HD.out]; exact own_hit hx hno he
        subst HDT
        have HP := Lib.hid (put3_at hz2 (.int .i64 y.at_) (.int .i64 y.n) (.bool y.there))
        have HPB := Lib.hid (put3_below hb2 (Nat.le_refl _) (.int .i64 y.at_) (.int .i64 y.n) (.bool y.there))
        clear hx hno hk he h hb hb2 hbn hz hz2
        go_wp2_with fail
        (try simp only [Exit.inBlock, Exit.then])
        change bodyPost _ _ _ _ _ (put3 (wr.alloc (.cells #[.int .i64 y.at_, .int .i64 y.n, .bool y.there] 40)) w.heap.size (.int .i64 y.at_) (.int .i64 y.n) (.bool y.there))
        generalize put3 (wr.alloc (.cells #[.int .i64 y.at_, .int .i64 y.n, .bool y.there] 40)) w.heap.size (.int .i64 y.at_) (.int .i64 y.n) (.bool y.there) = W5 at *
        have hz := HP.out
        have k0 := cell_of hz 0
        have k1 := cell_of hz 1
        have k2 := cell_of hz 2
        simp at k0 k1 k2
        refine bodyPost_ret (v := .tuple #[gotA y, .bool true]) (by simp [results, Tryd.results15, go_sem, k0, k1, k2, gotA]) rfl ⟨rfl, HPB.out⟩
      · have hq : (y.at_ == t) = false := by rw [beq_eq_false_iff_ne]; exact he
        have HNO2 : Hid (ownP (l.take (k + 1)) t = none) := Lib.hid (by rw [own_at hx hno, if_neg he])
        clear hx hno hk he h hb hb2 hbn hz hz2
        go_wp2_with fail
        go_roundw
        case rel => exact ⟨k + 1, HLT.out, by go_num, HNO2.out, HZ2.out, HB2.out⟩
        case measure => have := HLT.out; simp [intOf]; omega
    · obtain rfl : k = l.length := by omega
      have HDT : d = none := by rw [← HD.out]; have := HNO.out; rwa [List.take_length] at this
      subst HDT
      have c0 := cell_of hz 0
      have c1 := cell_of hz 1
      have c2 := cell_of hz 2
      have f0 := free0 hz 0
      have f1 := free0 hz 1
      have f2 := free0 hz 2
      simp at c0 c1 c2
      have HP := Lib.hid (put3_at hz (.int .i64 0) (.int .i64 0) (.bool false))
      have HPB := Lib.hid (put3_below hb (Nat.le_refl _) (.int .i64 0) (.int .i64 0) (.bool false))
      clear hlt hk hno h hb hz
      go_wp2_with fail
      (try simp only [Exit.inBlock, Exit.then])
      change bodyPost _ _ _ _ _ (put3 wr w.heap.size (.int .i64 0) (.int .i64 0) (.bool false))
      generalize put3 wr w.heap.size (.int .i64 0) (.int .i64 0) (.bool false) = W5 at *
      have hz := HP.out
      have k0 := cell_of hz 0
      have k1 := cell_of hz 1
      have k2 := cell_of hz 2
      simp at k0 k1 k2
      refine bodyPost_ret (v := .tuple #[gotA got0, .bool false]) (by simp [results, Tryd.results15, go_sem, k0, k1, k2, gotA, got0]) rfl ⟨rfl, HPB.out⟩
theorem GIs.nil (w : World) : GIs w (.slice none 0 0) [] := RowIs.nil _ _
set_option maxRecDepth 100000 in
set_option maxHeartbeats 4000000 in
theorem without_any {w : World} {v : Value} {l : List GotP} {t : Int} (h : GIs w v l) (hl : l.length ≤ 100000) : Calls Tryd.prog 17 #[v, .int .i64 t] w fun e w' => ∃ v', e = .returned v' ∧ GIs w' v' (withoutP l t) ∧ (∀ b, v'.ownBlock = some b → w.heap.size ≤ b) ∧ Below w.heap.size w w' := by
  obtain ⟨A, cap, rfl, h1, h2, _⟩ := id (RowIs.form h)
  unfold maxLen at h2
  have HH := Lib.hid h
  have hl' : (l.length : Int) ≤ 100000 := by omega
  go_enter Tryd.func17, Tryd.ntmps17
  go_wp2_with fail
  go_loopw [5, 10] (fun av iv wr => ∃ k : Nat, k ≤ l.length ∧ iv = .int .i64 k ∧ GIs wr av (withoutP (l.take k) t) ∧ (∀ b, av.ownBlock = some b → w.heap.size ≤ b) ∧ Below w.heap.size w wr) (fun _ iv _ => l.length - (intOf iv).toNat)
  case atStart => exact ⟨0, Nat.zero_le _, rfl, GIs.nil _, (fun b e => by cases e), Below.refl _ _⟩
  case round =>
    obtain ⟨k, hk, rfl, hr, ho, hb⟩ := hrel
    have HB := Lib.hid hb
    have HO := Lib.hid ho
    have HR := Lib.hid hr
    by_cases hlt : k < l.length
    · have hx : l[k]? = some l[k] := List.getElem?_eq_getElem hlt
      generalize l[k] = y at hx
      have HLT := Lib.hid hlt
      obtain ⟨g, cap', e0, _, _, _, k0, k1, k2⟩ := GIs.got (RowIs.below HH.out hb) hx
      injection e0 with e0 _ e1
      subst e0 e1
      have hi : (k : Int) < (l.length : Int) := by omega
      have hb2 := below_new (w := wr) (.cells #[.int .i64 y.at_, .int .i64 y.n, .bool y.there] 40)
      have HBN : Hid (Below w.heap.size w (wr.alloc (.cells #[.int .i64 y.at_, .int .i64 y.n, .bool y.there] 40))) := Lib.hid (hb.trans (hb2.mono hb.size))
      have HRN : Hid (GIs (wr.alloc (.cells #[.int .i64 y.at_, .int .i64 y.n, .bool y.there] 40)) u5 (withoutP (l.take k) t)) := Lib.hid (RowIs.below hr hb2)
      by_cases he : y.at_ = t
      · have hq : (y.at_ == t) = true := by rw [he]; exact beq_self_eq_true t
        have HW : Hid (withoutP (l.take (k + 1)) t = withoutP (l.take k) t) := Lib.hid (by rw [without_at hx, if_pos he])
        clear hx hk he h hb hb2 hr ho
        go_wp2_with fail
        go_roundw
        case rel => exact ⟨k + 1, HLT.out, by go_num, by rw [HW.out]; exact HRN.out, HO.out, HBN.out⟩
        case measure => have := HLT.out; simp [intOf]; omega
      · have hq : (y.at_ == t) = false := by rw [beq_eq_false_iff_ne]; exact he
        have hlen : (withoutP (l.take k) t).length ≤ 1000000 := by
          have := without_len (l.take k) t
          rw [List.length_take] at this
          omega
        obtain ⟨v1, w1, hr1, hrow1, ht1, ho1⟩ := app_got y 35 HRN.out hlen
        rw [asz] at hr1
        have hs := HBN.out.size
        have HROW : Hid (GIs w1 v1 (withoutP (l.take (k + 1)) t)) := Lib.hid (by rw [without_at hx, if_neg he]; exact hrow1)
        have HO1 : Hid (∀ b, v1.ownBlock = some b → w.heap.size ≤ b) := Lib.hid (fun b e => (ho1 b e).elim (fun e => ho b e) (fun e => Nat.le_trans hs e))
        have HB1 : Hid (Below w.heap.size w w1) := Lib.hid (HBN.out.trans (ht1.below (fun b e => ho b e) hs))
        clear hx hk he h hb hb2 hr ho hlen hrow1 ht1 ho1 hs
        go_wp2_with (at_builtin; refine wpList_app_run rfl _ _ _ _ rfl rfl rfl hr1 ?_)
        go_roundw
        case rel => exact ⟨k + 1, HLT.out, by go_num, HROW.out, HO1.out, HB1.out⟩
        case measure => have := HLT.out; simp [intOf]; omega
    · obtain rfl : k = l.length := by omega
      have HR2 : Hid (GIs wr u5 (withoutP l t)) := Lib.hid (by have := HR.out; rwa [List.take_length] at this)
      clear hlt hk hr ho hb h
      go_wp2_with fail
      go_ret
      exact ⟨_, rfl, HR2.out, HO.out, HB.out⟩
end Go.Proofs.YtmaokoekbjjgfaaDoor
