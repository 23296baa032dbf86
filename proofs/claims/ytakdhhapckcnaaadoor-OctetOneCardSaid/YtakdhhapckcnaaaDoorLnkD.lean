/- fault.Trail, and the reference functions Trail and Texts, at every chain and lists. -/
import Derived.Test.YtakdhhapckcnaaaDoorLnkC
import Derived.Deep.LoopGhost
set_option linter.unusedSimpArgs false
set_option linter.unusedVariables false
namespace Go.Proofs.YtakdhhapckcnaaaDoor
open Go.RowKit

/-- A slice value that reads as texts. -/
def TxtIs (w : World) (v : Value) (ss : List ByteArray) : Prop :=
  (v = .slice none 0 0 ∧ ss = []) ∨ ∃ a cap, v = .slice (some a) ss.length cap ∧ ss.length ≤ cap ∧ cap ≤ maxLen ∧ a.block < w.heap.size ∧ ∀ i s, ss[i]? = some s → w.cell? (a.add i) = some (.string s)
theorem TxtIs.below {w w' : World} {B : Nat} {v : Value} {ls : List ByteArray} (h : TxtIs w v ls) (hb : Below B w w') (hB : w.heap.size ≤ B) : TxtIs w' v ls := by
  rcases h with h | ⟨a, cap, hv, h1, h2, h3, h4⟩
  · exact .inl h
  · exact .inr ⟨a, cap, hv, h1, h2, Nat.lt_of_lt_of_le h3 hb.size, fun i x hx => (hb.cell (by rw [add_block]; omega)).trans (h4 i x hx)⟩
theorem txt_of_own {w : World} {base : Nat} {v : Value} {ss : List ByteArray} (h : w.ownsRow base 9 1 v ss.length (ss.map Value.string)) : TxtIs w v ss := by
  obtain ⟨_, h1 | ⟨g, cap, cur, rfl, hg, hh, hn, hc, hs, ht⟩⟩ := id h
  · exact .inl ⟨h1.1, List.eq_nil_of_length_eq_zero h1.2⟩
  · refine .inr ⟨⟨g, 0, none⟩, cap, rfl, hn, hc, ErrIs.lt hh, fun i x hx => ?_⟩
    exact h.cells (g := g) rfl i _ (by rw [List.getElem?_map, hx]; rfl)
theorem own_below {w w' : World} {base : Nat} {e : TypeId} {size : Nat} {v : Value} {n : Nat} {xs : List Value} (h : w.ownsRow base e size v n xs) (hb : Below w.heap.size w w') : w'.ownsRow base e size v n xs :=
  h.kept (row := none) ⟨hb.os, hb.tape, hb.output, hb.size, fun k hk _ => hb.block k hk⟩ (Classical.em _)
theorem info9 : (Tryd.prog.info? 9).map (fun i => (i.zero, i.size, i.bytes)) = some (some (.string ⟨#[]⟩), 1, 16) := by kernel_rfl
theorem one_new (W : World) (n : Nat) (hn : W.heap.size = n) (t : TypeId) (c0 : Value) : ∀ j u, [c0][j]? = some u → (W.alloc (.cells #[c0] t)).cell? ((⟨n, 0, none⟩ : Addr).add j) = some u := by
  intro j u h
  subst hn
  rw [add0, cell_of_row _ _ _ _ _ _ (heap_alloc_new W _)]
  simpa using h
theorem str_one (s : ByteArray) : ∀ u ∈ [Value.string s], u.oneCell' = true := by simp [Value.oneCell']

def trailOf : List Lk → List ByteArray
  | [] => []
  | .nam s :: r => s :: trailOf r
  | _ :: r => trailOf r
theorem trailOf_hit (c : List Lk) : trailOf c = trailOf (hit Lk.isNam c) := by
  induction c with
  | nil => rfl
  | cons k r ih => cases k <;> simp [hit, Lk.isNam, trailOf, ih]
theorem hit_length (q : Lk → Bool) (c : List Lk) : (hit q c).length ≤ c.length := by
  induction c with
  | nil => exact Nat.le_refl _
  | cons k r ih =>
    rw [hit]
    cases q k <;> simp
    omega
/-- what stands in the two slots that ask told -/
def Told (w : World) (c : List Lk) (n ok : Value) : Prop := match hit Lk.isNam c with
  | [] => ok = .bool false
  | k :: r => ok = .bool true ∧ ErrIs w (k :: r) (.iface 94 n)

set_option maxRecDepth 100000 in
set_option maxHeartbeats 2000000 in
theorem trail_any {w W : World} {c : List Lk} {v : Value} (hG : Glob w) (h : ErrIs w c v) (hn : c.length < 1000) (hW : Below w.heap.size w W) :
    Calls Tryd.prog 24 #[v] W fun e w' => ∃ v, e = .returned v ∧ TxtIs w' v (trailOf c) ∧ Below W.heap.size W w' := by
  have H1 := Lib.hid (ends_any h hW hn)
  have HA := Lib.hid (fun (c' : List Lk) (x : Value) (hx : ErrIs w c' x) (W' : World) (hb : Below W.heap.size W W') => ask_nam hG hx (hW.trans (hb.mono hW.size)))
  have HE := Lib.hid h
  have HW := Lib.hid hW
  obtain ⟨i0, hi, hz0, hz1, hz2⟩ := info_parts info9
  clear h hG hW
  go_enter Tryd.func24, Tryd.ntmps24
  go_wp2_with fail
  refine (H1.out).mono ?_
  rintro e w1 ⟨rfl, hb⟩
  have H3 := Lib.hid (HA.out c v HE.out w1 hb)
  have HB := Lib.hid hb
  clear hb
  go_wp2_with fail
  refine (H3.out).mono ?_
  rintro e w2 ⟨hb2, hp⟩
  have HB2 := Lib.hid (HB.out.trans (hb2.mono HB.out.size))
  clear hb2
  obtain ⟨n, ok, he, hT⟩ : ∃ n ok, e = .returned (.tuple #[n, ok]) ∧ Told w c n ok := by
    unfold Told
    cases hh : hit Lk.isNam c with
    | nil => rw [hh] at hp; exact ⟨_, _, hp, rfl⟩
    | cons k r => rw [hh] at hp; obtain ⟨u, hu, he⟩ := hp; exact ⟨_, _, he, rfl, hu⟩
  subst he
  have HT := Lib.hid hT
  clear hp hT
  go_wp2_with fail
  go_loopg [3, 4, 5] c.length (fun g names n ok wr => ∃ (done : List ByteArray) (rest : List Lk), rest.length = g ∧ done.length + rest.length ≤ c.length ∧ trailOf c = done ++ trailOf rest ∧ wr.ownsRow W.heap.size 9 1 names done.length (done.map Value.string) ∧ Below W.heap.size W wr ∧ Told w rest n ok)
  case atStart => exact ⟨[], c, rfl, by simp, rfl, World.ownsRow_nil _ _ _ _, HB2.out, HT.out⟩
  case round =>
    obtain ⟨done, rest, hg, hle, htr, hown, hb, hT⟩ := hrel
    have HR := Lib.hid htr
    have HG := Lib.hid hg
    have HO := Lib.hid hown
    have HBr := Lib.hid hb
    have hszw : W.heap.size ≤ wr.heap.size := hb.size
    clear htr hg hown hb
    unfold Told at hT
    cases hh : hit Lk.isNam rest with
    | nil =>
      rw [hh] at hT
      obtain rfl : u5 = .bool false := hT
      have HH := Lib.hid hh
      clear hh
      go_wp2
      go_ret
      refine ⟨_, rfl, ?_, HBr.out⟩
      have : trailOf c = done := by rw [HR.out, trailOf_hit rest, HH.out]; simp [trailOf]
      rw [this]
      exact txt_of_own HO.out
    | cons k r =>
      rw [hh] at hT
      obtain ⟨rfl, hE⟩ := hT
      obtain ⟨s, b, x, rfl, rfl, hbb, hx⟩ := inv94 hE
      have hb1 := ((HW.out.trans (HBr.out.mono HW.out.size)).block b (ErrIs.lt hbb)).trans hbb
      have hbW : b < W.heap.size := Nat.lt_of_lt_of_le (ErrIs.lt hbb) HW.out.size
      have c0 := cell_of_row wr b 0 _ _ _ hb1
      have c1 := cell_of_row wr b 1 _ _ _ hb1
      simp at c0 c1
      have HH := Lib.hid hh
      have HX := Lib.hid hx
      have HC1 := Lib.hid c0
      clear hh hE hbb hx hb1
      have hlen : r.length < rest.length := by
        have := hit_length Lk.isNam rest
        rw [HH.out, List.length_cons] at this
        omega
      go_wp2_with (at_builtin; refine wpList_append_own _ rfl _ _ 36 rfl W.heap.size 9 i0 _ 1 16 Tryd.underlying36 hi hz0 hz1 hz2 rfl (by decide) _ _ _ rfl (HO.out.alloc _) ⟨wr.heap.size, 0, none⟩ 1 1 [.string s] rfl rfl (one_new _ _ rfl _ _) (str_one _) ?_ ?_ ?_ ?_)
      · unfold maxLen; omega
      · omega
      · (try simp); omega
      intro v' w' hown' hgrow _
      have hB' : Below W.heap.size W w' := (HBr.out.alloc hszw _).grown hgrow (by simp; omega) (fun j hj => (HO.out.lt j hj).1)
      have HO' := Lib.hid hown'
      have HBw := Lib.hid hB'
      have c0' : w'.cell? ⟨b, 0, none⟩ = some x := by
        rw [hB'.cell (p := ⟨b, 0, none⟩) hbW, ← HBr.out.cell (p := ⟨b, 0, none⟩) hbW]; exact HC1.out
      clear hown' hgrow hB' c0 c1
      have H5 := Lib.hid (HA.out r x HX.out w' HBw.out)
      go_wp2_with fail
      refine (H5.out).mono ?_
      rintro e w3 ⟨hb3, hp⟩
      obtain ⟨n, ok, he, hT⟩ : ∃ n ok, e = .returned (.tuple #[n, ok]) ∧ Told w r n ok := by
        unfold Told
        cases hh : hit Lk.isNam r with
        | nil => rw [hh] at hp; exact ⟨_, _, hp, rfl⟩
        | cons k r => rw [hh] at hp; obtain ⟨u, hu, he⟩ := hp; exact ⟨_, _, he, rfl, hu⟩
      subst he
      have HT2 := Lib.hid hT
      have HB3 := Lib.hid hb3
      clear hp hT hb3
      go_wp2
      go_roundg r.length
      case measure => rw [← HG.out]; exact hlen
      case rel =>
        refine ⟨done ++ [s], r, rfl, by simp; omega, ?_, ?_, HBw.out.trans (HB3.out.mono HBw.out.size), HT2.out⟩
        · rw [HR.out, trailOf_hit rest, HH.out]; simp [trailOf]
        · have hk := HO'.out
          have : (done ++ [s]).length = done.length + 1 := by simp
          rw [this, List.map_append]
          exact own_below hk HB3.out
theorem trailL_snoc {ls : List L6} {k : Nat} {x : L6} (hx : ls[k]? = some x) : trailL (ls.take (k + 1)) = if x.kind = 2 then trailL (ls.take k) ++ [x.name] else trailL (ls.take k) := by
  have hlt : k < ls.length := (List.getElem?_eq_some_iff.1 hx).1
  unfold trailL
  rw [List.take_succ_eq_append_getElem hlt, (List.getElem?_eq_some_iff.1 hx).2]
  by_cases h : x.kind = 2 <;> simp [List.filter_append, List.filter_cons, h]
theorem trailL_le (ls : List L6) : (trailL ls).length ≤ ls.length := by
  unfold trailL; rw [List.length_map]; exact List.length_filter_le _ _

set_option maxRecDepth 100000 in
set_option maxHeartbeats 2000000 in
theorem rtrail_any {w : World} {v : Value} {ls : List L6} (h : SlIs w v ls) (h30 : ls.length < 1000) : Calls Tryd.prog 25 #[v] w fun e w' => ∃ v, e = .returned v ∧ TxtIs w' v (trailL ls) ∧ Below w.heap.size w w' := by
  rcases h with ⟨rfl, rfl⟩ | ⟨a, cap, rfl, hlc, hcm, hal, h6⟩
  · go_enter Tryd.func25, Tryd.ntmps25
    go_wp2
    refine wp_loop_rounds 1 ?_
    rw [rounds_succ]
    go_wp2
    go_ret
    exact ⟨_, rfl, .inl ⟨rfl, rfl⟩, Below.refl _ _⟩
  · unfold maxLen at hcm
    have hlm : ls.length ≤ 9223372036854775807 := by omega
    obtain ⟨i0, hi, hz0, hz1, hz2⟩ := info_parts info9
    go_enter Tryd.func25, Tryd.ntmps25
    go_wp2_with fail
    go_loopw [3, 8] (fun v i wr => ∃ k : Nat, k ≤ ls.length ∧ i = .int .i64 k ∧ wr.ownsRow w.heap.size 9 1 v (trailL (ls.take k)).length ((trailL (ls.take k)).map Value.string) ∧ Below w.heap.size w wr) (fun _ i _ => ls.length - (intOf i).toNat)
    case atStart => exact ⟨0, by omega, rfl, World.ownsRow_nil _ _ _ _, Below.refl _ _⟩
    case round =>
      obtain ⟨k, hk, rfl, hown, hb⟩ := hrel
      by_cases hlt : k < ls.length
      · have hx : ls[k]? = some ls[k] := List.getElem?_eq_getElem hlt
        generalize ls[k] = x at hx
        have hpb : (a.add (k * 6)).block < w.heap.size := by rw [add_block]; exact hal
        obtain ⟨c0, c1, c2, c3, c4, c5⟩ := (h6 k x hx).below hb hpb
        have HX := Lib.hid hx
        have HB := Lib.hid hb
        have HO := Lib.hid hown
        have hszw : w.heap.size ≤ wr.heap.size := hb.size
        have hnl : (trailL (ls.take k)).length ≤ 1000 := by
          have := trailL_le (ls.take k)
          have h2 : (ls.take k).length ≤ ls.length := by rw [List.length_take]; omega
          omega
        clear hx hb h6 hpb hown
        by_cases h0 : x.kind = 2
        · have hb0 : (x.kind == 2) = true := beq_iff_eq.2 h0
          have HS := Lib.hid (trailL_snoc HX.out)
          have H0 := Lib.hid h0
          clear h0
          go_wp2_with (at_builtin; refine wpList_append_own _ rfl _ _ 36 rfl w.heap.size 9 i0 _ 1 16 Tryd.underlying36 hi hz0 hz1 hz2 rfl (by decide) _ _ _ rfl ((HO.out.alloc _).alloc _) ⟨wr.heap.size + 1, 0, none⟩ 1 1 [.string x.name] rfl rfl (one_new _ _ (heap_size_alloc_cells wr _ 42) _ _) (str_one _) ?_ ?_ ?_ ?_)
          · unfold maxLen; omega
          · omega
          · (try simp); omega
          intro v' w' hown' hgrow _
          have hB' : Below w.heap.size w w' := ((HB.out.alloc hszw _).alloc (by simp; omega) _).grown hgrow (by simp; omega) (fun j hj => (HO.out.lt j hj).1)
          have HO' := Lib.hid hown'
          have HBw := Lib.hid hB'
          clear hown' hgrow hB'
          go_wp2
          go_roundw
          case rel =>
            refine ⟨k + 1, by omega, by go_num, ?_, HBw.out⟩
            rw [HS.out, if_pos H0.out, List.length_append, List.map_append]
            exact HO'.out
          case measure => simp [intOf]; omega
        · have hb0 : (x.kind == 2) = false := beq_eq_false_iff_ne.2 h0
          have HS := Lib.hid (trailL_snoc HX.out)
          have H0 := Lib.hid h0
          clear h0
          go_wp2
          go_roundw
          case rel =>
            refine ⟨k + 1, by omega, by go_num, ?_, HB.out.alloc HB.out.size _⟩
            rw [HS.out, if_neg H0.out]
            exact HO.out.alloc _
          case measure => simp [intOf]; omega
      · obtain rfl : k = ls.length := by omega
        have HB := Lib.hid hb
        have HO := Lib.hid hown
        clear hb h6 hown
        go_wp2
        go_ret
        refine ⟨_, rfl, ?_, HB.out⟩
        have := HO.out
        rw [List.take_length] at this
        exact txt_of_own this

set_option maxRecDepth 100000 in
set_option maxHeartbeats 2000000 in
theorem texts_same {w : World} {v1 v2 : Value} {ss : List ByteArray} (h1 : TxtIs w v1 ss) (h2 : TxtIs w v2 ss) : Calls Tryd.prog 23 #[v1, v2] w fun e w' => e = .returned (.bool true) ∧ Below w.heap.size w w' := by
  rcases h1 with ⟨rfl, rfl⟩ | ⟨a, cap, rfl, hlc, hcm, hal, h6⟩
  · rcases h2 with ⟨rfl, _⟩ | ⟨a2, cap2, rfl, hlc2, hcm2, hal2, h62⟩
    · go_enter Tryd.func23, Tryd.ntmps23
      go_wp2
      refine wp_loop_rounds 1 ?_
      rw [rounds_succ]
      go_wp2
      go_ret
      exact ⟨rfl, Below.refl _ _⟩
    · simp only [List.length_nil] at *
      clear h62
      go_enter Tryd.func23, Tryd.ntmps23
      go_wp2
      refine wp_loop_rounds 1 ?_
      rw [rounds_succ]
      go_wp2
      go_ret
      exact ⟨rfl, Below.refl _ _⟩
  · by_cases hz : ss = []
    · subst hz
      clear h6
      have e2 : ∃ A c, v2 = .slice A 0 c := by
        rcases h2 with ⟨rfl, _⟩ | ⟨a2, cap2, rfl, _⟩
        · exact ⟨_, _, rfl⟩
        · exact ⟨_, _, rfl⟩
      obtain ⟨A, c, rfl⟩ := e2
      simp only [List.length_nil] at *
      go_enter Tryd.func23, Tryd.ntmps23
      go_wp2
      refine wp_loop_rounds 1 ?_
      rw [rounds_succ]
      go_wp2
      go_ret
      exact ⟨rfl, Below.refl _ _⟩
    · rcases h2 with ⟨_, hz2⟩ | ⟨a2, cap2, rfl, hlc2, hcm2, hal2, h62⟩
      · exact absurd hz2 hz
      · unfold maxLen at hcm hcm2
        have hlm : ss.length ≤ 9223372036854775807 := by omega
        go_enter Tryd.func23, Tryd.ntmps23
        go_wp2_with fail
        go_loopw [13] (fun i wr => ∃ k : Nat, k ≤ ss.length ∧ i = .int .i64 k ∧ Below w.heap.size w wr) (fun i _ => ss.length - (intOf i).toNat)
        case atStart => exact ⟨0, by omega, rfl, Below.refl _ _⟩
        case round =>
          obtain ⟨k, hk, rfl, hb⟩ := hrel
          by_cases hlt : k < ss.length
          · have hx : ss[k]? = some ss[k] := List.getElem?_eq_getElem hlt
            generalize ss[k] = x at hx
            have c1 := (hb.cell (p := a.add k) (by rw [add_block]; exact hal)).trans (h6 k x hx)
            have c2 := (hb.cell (p := a2.add k) (by rw [add_block]; exact hal2)).trans (h62 k x hx)
            have HB := Lib.hid hb
            have hkn : (0 : Int) ≤ (k : Int) := by omega
            have hkl : (k : Int) < ss.length := by omega
            clear hx hb h6 h62 hz
            go_wp2
            go_quiet (fail)
            go_wp2
            go_roundw
            case rel => exact ⟨k + 1, by omega, by go_num, below_drewN HB.out _⟩
            case measure => simp [intOf]; omega
          · obtain rfl : k = ss.length := by omega
            have HB := Lib.hid hb
            clear hb h6 h62 hz
            go_wp2
            go_ret
            exact ⟨rfl, HB.out⟩
end Go.Proofs.YtakdhhapckcnaaaDoor
