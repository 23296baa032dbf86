/- Add. -/
import Derived.Test.YtoidfkcecggjfaaDoorZValG
set_option linter.unusedSimpArgs false
set_option linter.unusedVariables false
set_option linter.unnecessarySimpa false
namespace Go.Proofs.YtoidfkcecggjfaaDoor
open Go.RowKit Go.Shelf

theorem infoS : (Tryd.prog.info? 29).map (fun i => (i.zero, i.size, i.bytes)) = some (some (.slice none 0 0), 1, 24) := by kernel_rfl
theorem src_s {w : World} {b : Nat} {A : Option Addr} {n c : Nat} {T : TypeId} (h : w.heap[b]? = some (.cells #[.slice A n c] T (0, 0))) : Src Tryd.prog 1 26 (.slice (some ⟨b, 0, none⟩) 1 1) 1 [.slice A n c] w :=
  Src.ofSlice _ Tryd.underlying26 ⟨b, 0, none⟩ 1 1 [.slice A n c] rfl (fun j u hu => by
    rw [add0, cell_of h]
    simpa using hu) (by simp [Value.oneCell'])
theorem oper_app_run {P : Program} {w w' : World} {o : Oper} {a : Act} {K : Act → World → Prop} {Q : Exit → Act → World → Prop} (s x : Operand) (T tx : TypeId) (ho : o.op = .call { callee := .builtin .append, args := #[s, x], argTypes := #[T, tx] }) {u v v' : Value} (hs : a.eval s = u) (hx : a.eval x = v) (hrun : (Builtin.append_ #[T, tx] o.type #[u, v]).run P w = .ok v' w') (hK : K (a.put o.dst v') w') {c : Bool} (hc : c = true) {E : Prop} : if c = true then Oper.wp P o a w K Q else E := by
  rw [if_pos hc]
  unfold Oper.wp execOp
  simp only [ho, resolve, invoke, builtin, Sem.run_bind, Sem.run_pure, Result.andThen_ok, List.map_toArray, List.map_cons, List.map_nil, hs, hx, hrun]
  exact hK
/-- What Add leaves. -/
def AddPost (w : World) (h : Nat) (v : Value) (F : Nat) (vs : List Value) (C : List (List K)) (ks : List K) (w' : World) : Prop := ∃ v' vs', HH w' h v' F vs' (C ++ [ks]) ∧ Touch (fun b => b = h ∨ v.ownBlock = some b) w w' ∧ (∀ b, v'.ownBlock = some b → v.ownBlock = some b ∨ w.heap.size ≤ b) ∧ (∀ x ∈ vs', ∀ b, x.ownBlock = some b → (∃ y ∈ vs, y.ownBlock = some b) ∨ w.heap.size ≤ b)
theorem Glob.touch {S : Nat → Prop} {w w' : World} (h : Glob w) (ht : Touch S w w') (hg : ¬ S 0) : Glob w' := (World.cell?_of_block (a := ⟨0, 0, none⟩) (ht.block _ h.lt hg)).trans h
theorem AddPost.after {w w' w'' : World} {h F : Nat} {v : Value} {vs : List Value} {C : List (List K)} {ks : List K} (hp : AddPost w h v F vs C ks w') (hb : Below w'.heap.size w' w'') : AddPost w h v F vs C ks w'' := by
  obtain ⟨v', vs', h1, h2, h3, h4⟩ := hp
  exact ⟨v', vs', h1.below hb, h2.after hb, h3, h4⟩
theorem add_fin {w w5 wA : World} {h F : Nat} {v u v5 : Value} {vs : List Value} {C : List (List K)} {ks : List K} (hh : HH w h v F vs C) (hb : Below w.heap.size w wA) (hu : RowIs wA 1 u ks.length (strs ks)) (huo : ∀ b, u.ownBlock = some b → w.heap.size ≤ b) (hs : ks.Pairwise (· < ·)) (hl : ks.length ≤ 1000000)
    (hrow : RowIs w5 1 v5 (C.length + 1) (vs ++ [u])) (hg : wA.grownBy w5 v.ownBlock) (ho : v5.ownBlock = v.ownBlock ∨ v5.ownBlock = some wA.heap.size) (hfew : F + C.length + 1 ≤ 1000000) : ∃ vs', HH (w5.setCell ⟨h, 1, none⟩ v5) h v5 F vs' (C ++ [ks]) ∧ AddPost w h v F vs C ks (w5.setCell ⟨h, 1, none⟩ v5) := by
  have h1 := hh.below hb
  have hsz := hb.size
  have hv5 : ∀ b, v5.ownBlock = some b → v.ownBlock = some b ∨ w.heap.size ≤ b := fun b e => by
    rcases ho with e2 | e2
    · exact .inl (e2 ▸ e)
    · rw [e] at e2
      injection e2 with e2
      right
      omega
  have hhl := heap_lt hh.head
  have hgl := hh.glob.lt
  have ht1 : Touch (fun k => v.ownBlock = some k) wA w5 := (Touch.refl _ wA).grown hg (fun k e _ => e)
  have ht2 : Touch (fun b => b = h) w5 (w5.setCell ⟨h, 1, none⟩ v5) := Touch.setCell (S := fun b => b = h) (Touch.refl _ w5) ⟨h, 1, none⟩ (fun _ => rfl) v5
  have htA : Touch (fun b => b = h ∨ v.ownBlock = some b) wA (w5.setCell ⟨h, 1, none⟩ v5) := (ht1.mono fun i _ e => .inr e).trans ht2 (fun i _ e => .inl e)
  have htW : Touch (fun b => b = h ∨ v.ownBlock = some b) w (w5.setCell ⟨h, 1, none⟩ v5) := htA.ahead hb
  have hvs : ∀ x ∈ vs, ∀ b, x.ownBlock = some b → b ≠ h ∧ v.ownBlock ≠ some b ∧ b < w.heap.size := fun x hx b e => by
    obtain ⟨i, hi⟩ := List.mem_iff_getElem?.1 hx
    have hil := (List.getElem?_eq_some_iff.1 hi).1
    rw [hh.len] at hil
    obtain ⟨u0, hu0, hr0, a, c⟩ := hh.each i C[i] (List.getElem?_eq_getElem hil)
    rw [hi] at hu0
    obtain rfl := Option.some.inj hu0
    exact ⟨fun e2 => a (e2 ▸ e), c b e, RowIs.lt hr0 b e⟩
  have hhd := (ht1.block h (heap_lt h1.head) (fun e => h1.off e)).trans h1.head
  have huB : ∀ b, u.ownBlock = some b → b ≠ h ∧ v.ownBlock ≠ some b := fun b e => ⟨fun e2 => by have := huo b e; omega, fun e2 => by have := RowIs.lt hh.row b e2; have := huo b e; omega⟩
  have hv5u : ∀ b, u.ownBlock = some b → v5.ownBlock ≠ some b := fun b e e2 => by
    rcases ho with e3 | e3
    · exact (huB b e).2 (e3 ▸ e2)
    · rw [e2] at e3
      injection e3 with e3
      have := RowIs.lt hu b e
      omega
  have hv5h : v5.ownBlock ≠ some h := fun e => by
    rcases hv5 h e with e2 | e2
    · exact hh.off e2
    · omega
  have hHH : HH (w5.setCell ⟨h, 1, none⟩ v5) h v5 F (vs ++ [u]) (C ++ [ks]) := by
    refine ⟨⟨?_, ?_, fun i ks' hi => ?_, hv5h, by simp [hh.len]⟩, fun x hx => ?_, by simp; omega, hh.glob.touch htW (fun e => ?_), fun e => ?_, hh.hfree⟩
    · have := set_at hhd 1 v5
      simpa using this
    · rw [List.length_append]
      exact RowIs.touch hrow ht2 fun g e e2 => hv5h (e2 ▸ e)
    · by_cases hic : i < C.length
      · rw [List.getElem?_append_left hic] at hi
        obtain ⟨u0, hu0, hr0, a, c⟩ := hh.each i ks' hi
        have hm := List.mem_of_getElem? hu0
        refine ⟨u0, by rw [List.getElem?_append_left (by rw [hh.len]; exact hic)]; exact hu0, RowIs.touch hr0 htW fun g e e2 => ?_, a, fun g e e2 => ?_⟩
        · rcases e2 with e2 | e2
          · exact (hvs u0 hm g e).1 e2
          · exact (hvs u0 hm g e).2.1 e2
        · rcases hv5 g e2 with e3 | e3
          · exact (hvs u0 hm g e).2.1 e3
          · have := (hvs u0 hm g e).2.2; omega
      · rw [List.getElem?_append_right (by omega)] at hi
        have h9 : i - C.length < 1 := (List.getElem?_eq_some_iff.1 hi).1
        have h8 : i = C.length := by omega
        subst h8
        rw [Nat.sub_self] at hi
        have : ks = ks' := by simpa using hi
        subst this
        refine ⟨u, by rw [List.getElem?_append_right (by rw [hh.len]; omega), hh.len]; simp, RowIs.touch hu htA fun g e e2 => ?_, fun e => (huB h e).1 rfl, hv5u⟩
        rcases e2 with e2 | e2
        · exact (huB g e).1 e2
        · exact (huB g e).2 e2
    · rcases List.mem_append.1 hx with hx | hx
      · exact hh.good x hx
      · rw [List.mem_singleton.1 hx]; exact ⟨hs, hl⟩
    · rcases e with e | e
      · exact hh.hfree e.symm
      · exact hh.free e
    · rcases hv5 _ e with e2 | e2
      · exact hh.free e2
      · omega
  exact ⟨_, hHH, v5, _, hHH, htW, hv5, fun x hx b e => by
    rcases List.mem_append.1 hx with hx | hx
    · exact .inl ⟨x, hx, e⟩
    · rw [List.mem_singleton.1 hx] at e
      exact .inr (huo b e)⟩
theorem add_cell {w w5 wA : World} {h F n c : Nat} {A : Option Addr} {vs : List Value} {C : List (List K)} (hh : HH w h (.slice A n c) F vs C) (hb : Below w.heap.size w wA) (hg : wA.grownBy w5 (Value.slice A n c).ownBlock) : w5.cell? ⟨h, 1, none⟩ = some (.slice A n c) := by
  have h1 := hh.below hb
  exact cell_of ((hg.block h (heap_lt h1.head) (fun e => h1.off e.symm)).trans h1.head) 1
theorem add_frozen {w w5 wA : World} {h F n c : Nat} {A : Option Addr} {vs : List Value} {C : List (List K)} (hh : HH w h (.slice A n c) F vs C) (hb : Below w.heap.size w wA) (hg : wA.grownBy w5 (Value.slice A n c).ownBlock) : w5.frozen? ⟨h, 1, none⟩ = false := by
  have h1 := hh.below hb
  exact free0 ((hg.block h (heap_lt h1.head) (fun e => h1.off e.symm)).trans h1.head) 1
set_option maxRecDepth 100000 in
set_option maxHeartbeats 8000000 in
theorem Add_any {w : World} {h F : Nat} {v kv : Value} {vs : List Value} {C : List (List K)} {keys : List K} (hh : HH w h v F vs C) (hr : RowIs w 1 kv keys.length (strs keys)) (hl2 : keys.length ≤ 1000) (hfew : F + C.length + 1 ≤ 100000) :
    Calls Tryd.prog 12 #[.pointer (some ⟨h, 0, none⟩), kv] w fun e w' => e = .returned (.tuple #[.int .i64 ((F : Int) + (C.length : Int) + 1), .int .i64 0]) ∧ AddPost w h v F vs C (rises keys) w' := by
  obtain ⟨Ak, ck, rfl, _⟩ := id hr.form
  have HH0 := Lib.hid hh
  have HNW := Lib.hid (now_any hh.toHistAt hh.few)
  have HCL := Lib.hid (clone_row (w := w.drewN 1) (hr.below (below_drewN (Below.refl _ _) 1)) (by omega))
  have q1 : ((1073741824 : Int) ≤ (F : Int) + (C.length : Int)) = False := eq_false (by omega)
  clear hh hr
  go_enter Tryd.func12, Tryd.ntmps12
  go_wp2_with fail
  refine (HNW.out).mono ?_
  rintro e w1 ⟨rfl, rfl⟩
  go_wp2_with fail
  refine (HCL.out).mono ?_
  rintro e w2 ⟨lv, rfl, hlr, hlo, hb2⟩
  have HB2 : Hid (Below w.heap.size w w2) := Lib.hid ((below_drewN (Below.refl _ _) 1).trans hb2)
  have HLO : Hid (∀ b, lv.ownBlock = some b → w.heap.size ≤ b) := Lib.hid hlo
  have HSO := Lib.hid (sort_row hlr (by omega))
  obtain ⟨Al, cl, rfl, _⟩ := id hlr.form
  clear hlr hlo hb2 HCL
  go_wp2_with fail
  refine (HSO.out).mono ?_
  rintro e w3 ⟨rfl, hr3, ht3⟩
  have HB3 := Lib.hid (HB2.out.trans (ht3.below (fun b e => HLO.out b e) HB2.out.size))
  have hsl : (sorted keys).length = keys.length := sorted_len keys
  have hr3' : RowIs w3 1 (.slice Al keys.length cl) (sorted keys).length (strs (sorted keys)) := by rw [hsl]; exact hr3
  have HR3 := Lib.hid hr3'
  have hh3 := HH0.out.below HB3.out
  obtain ⟨Av, cv, rfl, hv1, hv2, hv3, hv4, _⟩ := id hh3.row.form
  have HS : Hid (∀ W, Below w.heap.size w W → W.cell? ⟨h, 1, none⟩ = some (.slice Av C.length cv)) := Lib.hid (fun W hW => (hW.cell (p := ⟨h, 1, none⟩) (heap_lt HH0.out.head)).trans (cell_of HH0.out.head 1))
  clear hr3 ht3 hr3' HSO
  go_wp2_with fail
  have HCP : Hid (Calls Tryd.prog 28 #[.slice Al keys.length cl] w3.drew fun e w' => ∃ v', e = .returned v' ∧ v'.ownBlock = (Value.slice Al keys.length cl).ownBlock ∧ RowIs w' 1 v' (rises keys).length (strs (rises keys)) ∧ Touch (fun k => (Value.slice Al keys.length cl).ownBlock = some k) w3.drew w') := Lib.hid (compact_row (w := w3.drew) (HR3.out.below (below_drew (Below.refl _ _))) (by omega))
  have kL : w3.drew.cell? ⟨h, 1, none⟩ = some (.slice Av C.length cv) := HS.out _ (below_drew HB3.out)
  refine wp_only ?_
  refine wp_region_held_drew (S := fun W => True) (by kernel_rfl) trivial (fun hHeld => ?_)
  refine wpAnyH_take (i := 0) (oi := { dst := some 16, op := Op.move (Operand.tmp 0), type := 23, pos := "valid.go:35", after := #[], guard := none }) (v := ?vv1) rfl (by kernel_rfl) (by kernel_rfl) (by kernel_rfl) (fun _ _ _ h => h) ?hy1 (by assumption) ?rest1
  case hy1 => (refine Or.inl ⟨by rfl, ?_⟩; intro W hSw; (try dsimp only at hSw); go_simp; (try with_reducible rfl))
  try simp only [Act.put, List.setIfInBounds_toArray, List.set_cons_zero, List.set_cons_succ]
  refine wpAnyH_take (i := 1) (oi := { dst := some 17, op := Op.move (Operand.tmp 0), type := 23, pos := "valid.go:35", after := #[], guard := none }) (v := ?vv2) rfl (by kernel_rfl) (by kernel_rfl) (by kernel_rfl) (fun _ _ _ h => h) ?hy2 (by assumption) ?rest2
  case hy2 => (refine Or.inl ⟨by rfl, ?_⟩; intro W hSw; (try dsimp only at hSw); go_simp; (try with_reducible rfl))
  try simp only [Act.put, List.setIfInBounds_toArray, List.set_cons_zero, List.set_cons_succ]
  refine wpAnyH_take (i := 2) (oi := { dst := some 18, op := Op.nilCheck (Operand.tmp 17), type := 0, pos := "valid.go:35", after := #[{ on := 1, ground := Ground.data }], guard := none }) (v := ?vv3) rfl (by kernel_rfl) (by kernel_rfl) (by kernel_rfl) (fun _ _ _ h => h) ?hy3 (by assumption) ?rest3
  case hy3 => (refine Or.inl ⟨by rfl, ?_⟩; intro W hSw; (try dsimp only at hSw); go_simp; (try with_reducible rfl))
  try simp only [Act.put, List.setIfInBounds_toArray, List.set_cons_zero, List.set_cons_succ]
  refine wpAnyH_take (i := 3) (oi := { dst := some 19, op := Op.fieldAddr 48 (Operand.tmp 18) 1, type := 0, pos := "valid.go:35", after := #[{ on := 2, ground := Ground.data }], guard := none }) (v := ?vv4) rfl (by kernel_rfl) (by kernel_rfl) (by kernel_rfl) (fun _ _ _ h => h) ?hy4 (by assumption) ?rest4
  case hy4 => (refine Or.inl ⟨by rfl, ?_⟩; intro W hSw; (try dsimp only at hSw); go_simp; (try with_reducible rfl))
  try simp only [Act.put, List.setIfInBounds_toArray, List.set_cons_zero, List.set_cons_succ]
  refine wpAnyH_take (i := 5) (oi := { dst := some 21, op := Op.move (Operand.tmp 6), type := 29, pos := "valid.go:35", after := #[], guard := none }) (v := ?vv5) rfl (by kernel_rfl) (by kernel_rfl) (by kernel_rfl) (fun _ _ _ h => h) ?hy5 (by assumption) ?rest5
  case hy5 => (refine Or.inl ⟨by rfl, ?_⟩; intro W hSw; (try dsimp only at hSw); go_simp; (try with_reducible rfl))
  try simp only [Act.put, List.setIfInBounds_toArray, List.set_cons_zero, List.set_cons_succ]
  refine wpAnyH_ready (rs := [4, 6]) (by kernel_rfl) (by simp) ?_
  refine AllReadyH.cons (o := { dst := some 20, op := Op.load 26 (Operand.tmp 19), type := 26, pos := "valid.go:35", after := #[{ on := 3, ground := Ground.data }], guard := none }) rfl (fun K hK => ?step6) ?more6
  ((go_simp; go_wp2_with fail))
  refine hK.out _ _ ?hS6 (fun hHeld => ?rr6)
  case hS6 => (trivial)
  clear hK K
  try simp only [Act.put, List.setIfInBounds_toArray, List.set_cons_zero, List.set_cons_succ]
  · clear kL
    refine wpAnyH_ready (rs := [6]) (by kernel_rfl) (by simp) ?_
    refine AllReadyH.cons (o := { dst := some 22, op := Op.call { callee := Callee.value (Operand.func 28), args := #[Operand.tmp 21], argTypes := #[29] }, type := 29, pos := "valid.go:35", after := #[{ on := 5, ground := Ground.data }], guard := none }) rfl (fun K hK => ?step7) ?more7
    case more7 => exact AllReadyH.nil
    ((go_simp; go_at_call 28; refine (HCP.out).mono ?_; rintro e w4 ⟨v4, rfl, ho4, hr4, ht4⟩; obtain ⟨A4, c4, rfl, _⟩ := id hr4.form; go_wp2_with fail))
    refine hK.out _ _ ?hS7 (fun hHeld => ?rr7)
    case hS7 => (trivial)
    clear hK K
    try simp only [Act.put, List.setIfInBounds_toArray, List.set_cons_zero, List.set_cons_succ]
    have HB4 := Lib.hid ((below_drew HB3.out).trans (ht4.below (fun b e => HLO.out b e) (below_drew HB3.out).size))
    have HR4 : Hid (RowIs w4 1 (.slice A4 (rises keys).length c4) (rises keys).length (strs (rises keys))) := Lib.hid hr4
    have HO4 : Hid (∀ b, (Value.slice A4 (rises keys).length c4).ownBlock = some b → w.heap.size ≤ b) := Lib.hid (fun b e => HLO.out b (ho4 ▸ e))
    clear ho4 hr4 ht4
    refine wpAnyH_ready (rs := [7]) (by kernel_rfl) (by simp) ?_
    refine AllReadyH.cons (o := { dst := some 23, op := Op.buildSlice 26 1 #[(0, Operand.tmp 22)], type := 26, pos := "valid.go:35", after := #[{ on := 6, ground := Ground.data }], guard := none }) rfl (fun K hK => ?step8) ?more8
    case more8 => exact AllReadyH.nil
    ((go_simp; go_wp2_with fail))
    refine hK.out _ _ ?hS8 (fun hHeld => ?rr8)
    case hS8 => (trivial)
    clear hK K
    try simp only [Act.put, List.setIfInBounds_toArray, List.set_cons_zero, List.set_cons_succ]
    have hb5 := below_new (w := w4) (.cells #[.slice A4 (rises keys).length c4] 29)
    have hbA := HB4.out.trans (hb5.mono HB4.out.size)
    have hhA := HH0.out.below hbA
    obtain ⟨v5, w5, hr5, hrow5, hg5, ho5⟩ := run_append_row (w4.alloc (.cells #[.slice A4 (rises keys).length c4] 29)) 26 29 26 26 Tryd.underlying26 infoS rfl (by omega) (by omega) _ C.length 1 vs [.slice A4 (rises keys).length c4] _ hhA.row (src_s (alloc_at w4 (.cells #[.slice A4 (rises keys).length c4] 29))) (by omega)
    obtain ⟨A5, c5, rfl, _⟩ := id hrow5.form
    have HFIN := Lib.hid (add_fin HH0.out hbA (HR4.out.below hb5) HO4.out (rises_lt keys) (Nat.le_trans (rises_len keys) (by omega)) hrow5 hg5 ho5 (by omega))
    have hkc : w5.cell? ⟨h, 1, none⟩ = some (.slice Av C.length cv) := add_cell HH0.out hbA hg5
    have hkf : w5.frozen? ⟨h, 1, none⟩ = false := add_frozen HH0.out hbA hg5
    have HR5 := Lib.hid hr5
    clear hb5 hbA hhA hr5 hrow5 hg5 ho5
    refine wpAnyH_ready (rs := [8]) (by kernel_rfl) (by simp) ?_
    refine AllReadyH.cons (o := { dst := some 24, op := Op.call { callee := Callee.builtin Builtin.append, args := #[Operand.tmp 20, Operand.tmp 23], argTypes := #[26, 26] }, type := 26, pos := "valid.go:35", after := #[{ on := 4, ground := Ground.data }, { on := 7, ground := Ground.data }, { on := 6, ground := Ground.chain }], guard := none }) rfl (fun K hK => ?step9) ?more9
    case more9 => exact AllReadyH.nil
    ((refine oper_app_run _ _ _ _ rfl rfl rfl HR5.out ?_ (by kernel_rfl)))
    refine hK.out _ _ ?hS9 (fun hHeld => ?rr9)
    case hS9 => (trivial)
    clear hK K
    try simp only [Act.put, List.setIfInBounds_toArray, List.set_cons_zero, List.set_cons_succ]
    refine wpAnyH_take (i := 9) (oi := { dst := some 25, op := Op.nilCheck (Operand.tmp 16), type := 0, pos := "valid.go:35", after := #[{ on := 0, ground := Ground.data }, { on := 0, ground := Ground.phase }, { on := 1, ground := Ground.phase }, { on := 2, ground := Ground.phase }, { on := 3, ground := Ground.phase }, { on := 4, ground := Ground.phase }, { on := 5, ground := Ground.phase }, { on := 6, ground := Ground.phase }, { on := 7, ground := Ground.phase }, { on := 8, ground := Ground.phase }], guard := none }) (v := ?vv10) rfl (by kernel_rfl) (by kernel_rfl) (by kernel_rfl) (fun _ _ _ h => h) ?hy10 (by assumption) ?rest10
    case hy10 => (refine Or.inl ⟨by rfl, ?_⟩; intro W hSw; (try dsimp only at hSw); go_simp; (try with_reducible rfl))
    try simp only [Act.put, List.setIfInBounds_toArray, List.set_cons_zero, List.set_cons_succ]
    refine wpAnyH_take (i := 10) (oi := { dst := some 26, op := Op.fieldAddr 48 (Operand.tmp 25) 1, type := 0, pos := "valid.go:35", after := #[{ on := 9, ground := Ground.data }, { on := 0, ground := Ground.phase }, { on := 1, ground := Ground.phase }, { on := 2, ground := Ground.phase }, { on := 3, ground := Ground.phase }, { on := 4, ground := Ground.phase }, { on := 5, ground := Ground.phase }, { on := 6, ground := Ground.phase }, { on := 7, ground := Ground.phase }, { on := 8, ground := Ground.phase }], guard := none }) (v := ?vv11) rfl (by kernel_rfl) (by kernel_rfl) (by kernel_rfl) (fun _ _ _ h => h) ?hy11 (by assumption) ?rest11
    case hy11 => (refine Or.inl ⟨by rfl, ?_⟩; intro W hSw; (try dsimp only at hSw); go_simp; (try with_reducible rfl))
    try simp only [Act.put, List.setIfInBounds_toArray, List.set_cons_zero, List.set_cons_succ]
    refine wpAnyH_ready (rs := [11]) (by kernel_rfl) (by simp) ?_
    refine AllReadyH.cons (o := { dst := none, op := Op.store 26 (Operand.tmp 26) (Operand.tmp 24), type := 0, pos := "valid.go:35", after := #[{ on := 10, ground := Ground.data }, { on := 8, ground := Ground.data }, { on := 8, ground := Ground.chain }, { on := 0, ground := Ground.phase }, { on := 1, ground := Ground.phase }, { on := 2, ground := Ground.phase }, { on := 3, ground := Ground.phase }, { on := 4, ground := Ground.phase }, { on := 5, ground := Ground.phase }, { on := 6, ground := Ground.phase }, { on := 7, ground := Ground.phase }, { on := 8, ground := Ground.phase }], guard := none }) rfl (fun K hK => ?step12) ?more12
    case more12 => exact AllReadyH.nil
    ((go_simp; go_wp2_with fail))
    refine hK.out _ _ ?hS12 (fun hHeld => ?rr12)
    case hS12 => (trivial)
    clear hK K
    try simp only [Act.put, List.setIfInBounds_toArray, List.set_cons_zero, List.set_cons_succ]
    refine wpAnyH_done (by kernel_rfl) ?_ _
    clear hHeld hkc hkf
    dsimp only [onlyN]
    have hfin := HFIN.out
    obtain ⟨vs', hh6, hpost⟩ := hfin
    have HNW2 := Lib.hid (now_any hh6.toHistAt hh6.few)
    have HPO := Lib.hid hpost
    clear hh6 hpost
    go_wp2_with fail
    refine (HNW2.out).mono ?_
    rintro e w7 ⟨rfl, rfl⟩
    go_wp2_with fail
    (try simp only [Exit.inBlock, Exit.then])
    refine bodyPost_ret (v := .tuple #[.int .i64 ((F : Int) + ((C ++ [rises keys]).length : Int)), .int .i64 0]) (by simp [results, Tryd.results12, go_sem]) rfl ?_
    exact ⟨by rw [List.length_append]; simp [Int.add_assoc], HPO.out.after (below_drewN (Below.refl _ _) 1)⟩
  · clear kL
    refine AllReadyH.cons (o := { dst := some 22, op := Op.call { callee := Callee.value (Operand.func 28), args := #[Operand.tmp 21], argTypes := #[29] }, type := 29, pos := "valid.go:35", after := #[{ on := 5, ground := Ground.data }], guard := none }) rfl (fun K hK => ?step13) ?more13
    case more13 => exact AllReadyH.nil
    ((go_simp; go_at_call 28; refine (HCP.out).mono ?_; rintro e w4 ⟨v4, rfl, ho4, hr4, ht4⟩; obtain ⟨A4, c4, rfl, _⟩ := id hr4.form; go_wp2_with fail))
    refine hK.out _ _ ?hS13 (fun hHeld => ?rr13)
    case hS13 => (trivial)
    clear hK K
    try simp only [Act.put, List.setIfInBounds_toArray, List.set_cons_zero, List.set_cons_succ]
    have HB4 := Lib.hid ((below_drew HB3.out).trans (ht4.below (fun b e => HLO.out b e) (below_drew HB3.out).size))
    have HR4 : Hid (RowIs w4 1 (.slice A4 (rises keys).length c4) (rises keys).length (strs (rises keys))) := Lib.hid hr4
    have HO4 : Hid (∀ b, (Value.slice A4 (rises keys).length c4).ownBlock = some b → w.heap.size ≤ b) := Lib.hid (fun b e => HLO.out b (ho4 ▸ e))
    clear ho4 hr4 ht4
    have kL := HS.out _ HB4.out
    refine wpAnyH_ready (rs := [4, 7]) (by kernel_rfl) (by simp) ?_
    refine AllReadyH.cons (o := { dst := some 20, op := Op.load 26 (Operand.tmp 19), type := 26, pos := "valid.go:35", after := #[{ on := 3, ground := Ground.data }], guard := none }) rfl (fun K hK => ?step14) ?more14
    ((go_simp; go_wp2_with fail))
    refine hK.out _ _ ?hS14 (fun hHeld => ?rr14)
    case hS14 => (trivial)
    clear hK K
    try simp only [Act.put, List.setIfInBounds_toArray, List.set_cons_zero, List.set_cons_succ]
    · clear kL
      refine wpAnyH_ready (rs := [7]) (by kernel_rfl) (by simp) ?_
      refine AllReadyH.cons (o := { dst := some 23, op := Op.buildSlice 26 1 #[(0, Operand.tmp 22)], type := 26, pos := "valid.go:35", after := #[{ on := 6, ground := Ground.data }], guard := none }) rfl (fun K hK => ?step15) ?more15
      case more15 => exact AllReadyH.nil
      ((go_simp; go_wp2_with fail))
      refine hK.out _ _ ?hS15 (fun hHeld => ?rr15)
      case hS15 => (trivial)
      clear hK K
      try simp only [Act.put, List.setIfInBounds_toArray, List.set_cons_zero, List.set_cons_succ]
      have hb5 := below_new (w := w4) (.cells #[.slice A4 (rises keys).length c4] 29)
      have hbA := HB4.out.trans (hb5.mono HB4.out.size)
      have hhA := HH0.out.below hbA
      obtain ⟨v5, w5, hr5, hrow5, hg5, ho5⟩ := run_append_row (w4.alloc (.cells #[.slice A4 (rises keys).length c4] 29)) 26 29 26 26 Tryd.underlying26 infoS rfl (by omega) (by omega) _ C.length 1 vs [.slice A4 (rises keys).length c4] _ hhA.row (src_s (alloc_at w4 (.cells #[.slice A4 (rises keys).length c4] 29))) (by omega)
      obtain ⟨A5, c5, rfl, _⟩ := id hrow5.form
      have HFIN := Lib.hid (add_fin HH0.out hbA (HR4.out.below hb5) HO4.out (rises_lt keys) (Nat.le_trans (rises_len keys) (by omega)) hrow5 hg5 ho5 (by omega))
      have hkc : w5.cell? ⟨h, 1, none⟩ = some (.slice Av C.length cv) := add_cell HH0.out hbA hg5
      have hkf : w5.frozen? ⟨h, 1, none⟩ = false := add_frozen HH0.out hbA hg5
      have HR5 := Lib.hid hr5
      clear hb5 hbA hhA hr5 hrow5 hg5 ho5
      refine wpAnyH_ready (rs := [8]) (by kernel_rfl) (by simp) ?_
      refine AllReadyH.cons (o := { dst := some 24, op := Op.call { callee := Callee.builtin Builtin.append, args := #[Operand.tmp 20, Operand.tmp 23], argTypes := #[26, 26] }, type := 26, pos := "valid.go:35", after := #[{ on := 4, ground := Ground.data }, { on := 7, ground := Ground.data }, { on := 6, ground := Ground.chain }], guard := none }) rfl (fun K hK => ?step16) ?more16
      case more16 => exact AllReadyH.nil
      ((refine oper_app_run _ _ _ _ rfl rfl rfl HR5.out ?_ (by kernel_rfl)))
      refine hK.out _ _ ?hS16 (fun hHeld => ?rr16)
      case hS16 => (trivial)
      clear hK K
      try simp only [Act.put, List.setIfInBounds_toArray, List.set_cons_zero, List.set_cons_succ]
      refine wpAnyH_take (i := 9) (oi := { dst := some 25, op := Op.nilCheck (Operand.tmp 16), type := 0, pos := "valid.go:35", after := #[{ on := 0, ground := Ground.data }, { on := 0, ground := Ground.phase }, { on := 1, ground := Ground.phase }, { on := 2, ground := Ground.phase }, { on := 3, ground := Ground.phase }, { on := 4, ground := Ground.phase }, { on := 5, ground := Ground.phase }, { on := 6, ground := Ground.phase }, { on := 7, ground := Ground.phase }, { on := 8, ground := Ground.phase }], guard := none }) (v := ?vv17) rfl (by kernel_rfl) (by kernel_rfl) (by kernel_rfl) (fun _ _ _ h => h) ?hy17 (by assumption) ?rest17
      case hy17 => (refine Or.inl ⟨by rfl, ?_⟩; intro W hSw; (try dsimp only at hSw); go_simp; (try with_reducible rfl))
      try simp only [Act.put, List.setIfInBounds_toArray, List.set_cons_zero, List.set_cons_succ]
      refine wpAnyH_take (i := 10) (oi := { dst := some 26, op := Op.fieldAddr 48 (Operand.tmp 25) 1, type := 0, pos := "valid.go:35", after := #[{ on := 9, ground := Ground.data }, { on := 0, ground := Ground.phase }, { on := 1, ground := Ground.phase }, { on := 2, ground := Ground.phase }, { on := 3, ground := Ground.phase }, { on := 4, ground := Ground.phase }, { on := 5, ground := Ground.phase }, { on := 6, ground := Ground.phase }, { on := 7, ground := Ground.phase }, { on := 8, ground := Ground.phase }], guard := none }) (v := ?vv18) rfl (by kernel_rfl) (by kernel_rfl) (by kernel_rfl) (fun _ _ _ h => h) ?hy18 (by assumption) ?rest18
      case hy18 => (refine Or.inl ⟨by rfl, ?_⟩; intro W hSw; (try dsimp only at hSw); go_simp; (try with_reducible rfl))
      try simp only [Act.put, List.setIfInBounds_toArray, List.set_cons_zero, List.set_cons_succ]
      refine wpAnyH_ready (rs := [11]) (by kernel_rfl) (by simp) ?_
      refine AllReadyH.cons (o := { dst := none, op := Op.store 26 (Operand.tmp 26) (Operand.tmp 24), type := 0, pos := "valid.go:35", after := #[{ on := 10, ground := Ground.data }, { on := 8, ground := Ground.data }, { on := 8, ground := Ground.chain }, { on := 0, ground := Ground.phase }, { on := 1, ground := Ground.phase }, { on := 2, ground := Ground.phase }, { on := 3, ground := Ground.phase }, { on := 4, ground := Ground.phase }, { on := 5, ground := Ground.phase }, { on := 6, ground := Ground.phase }, { on := 7, ground := Ground.phase }, { on := 8, ground := Ground.phase }], guard := none }) rfl (fun K hK => ?step19) ?more19
      case more19 => exact AllReadyH.nil
      ((go_simp; go_wp2_with fail))
      refine hK.out _ _ ?hS19 (fun hHeld => ?rr19)
      case hS19 => (trivial)
      clear hK K
      try simp only [Act.put, List.setIfInBounds_toArray, List.set_cons_zero, List.set_cons_succ]
      refine wpAnyH_done (by kernel_rfl) ?_ _
      clear hHeld hkc hkf
      dsimp only [onlyN]
      have hfin := HFIN.out
      obtain ⟨vs', hh6, hpost⟩ := hfin
      have HNW2 := Lib.hid (now_any hh6.toHistAt hh6.few)
      have HPO := Lib.hid hpost
      clear hh6 hpost
      go_wp2_with fail
      refine (HNW2.out).mono ?_
      rintro e w7 ⟨rfl, rfl⟩
      go_wp2_with fail
      (try simp only [Exit.inBlock, Exit.then])
      refine bodyPost_ret (v := .tuple #[.int .i64 ((F : Int) + ((C ++ [rises keys]).length : Int)), .int .i64 0]) (by simp [results, Tryd.results12, go_sem]) rfl ?_
      exact ⟨by rw [List.length_append]; simp [Int.add_assoc], HPO.out.after (below_drewN (Below.refl _ _) 1)⟩
    · clear kL
      refine AllReadyH.cons (o := { dst := some 23, op := Op.buildSlice 26 1 #[(0, Operand.tmp 22)], type := 26, pos := "valid.go:35", after := #[{ on := 6, ground := Ground.data }], guard := none }) rfl (fun K hK => ?step20) ?more20
      case more20 => exact AllReadyH.nil
      ((go_simp; go_wp2_with fail))
      refine hK.out _ _ ?hS20 (fun hHeld => ?rr20)
      case hS20 => (trivial)
      clear hK K
      try simp only [Act.put, List.setIfInBounds_toArray, List.set_cons_zero, List.set_cons_succ]
      have kL : (w4.alloc (.cells #[.slice A4 (rises keys).length c4] 29)).cell? ⟨h, 1, none⟩ = some (.slice Av C.length cv) := HS.out _ (HB4.out.trans ((below_new _).mono HB4.out.size))
      refine wpAnyH_ready (rs := [4]) (by kernel_rfl) (by simp) ?_
      refine AllReadyH.cons (o := { dst := some 20, op := Op.load 26 (Operand.tmp 19), type := 26, pos := "valid.go:35", after := #[{ on := 3, ground := Ground.data }], guard := none }) rfl (fun K hK => ?step21) ?more21
      case more21 => exact AllReadyH.nil
      ((go_simp; go_wp2_with fail))
      refine hK.out _ _ ?hS21 (fun hHeld => ?rr21)
      case hS21 => (trivial)
      clear hK K
      try simp only [Act.put, List.setIfInBounds_toArray, List.set_cons_zero, List.set_cons_succ]
      clear kL
      have hb5 := below_new (w := w4) (.cells #[.slice A4 (rises keys).length c4] 29)
      have hbA := HB4.out.trans (hb5.mono HB4.out.size)
      have hhA := HH0.out.below hbA
      obtain ⟨v5, w5, hr5, hrow5, hg5, ho5⟩ := run_append_row (w4.alloc (.cells #[.slice A4 (rises keys).length c4] 29)) 26 29 26 26 Tryd.underlying26 infoS rfl (by omega) (by omega) _ C.length 1 vs [.slice A4 (rises keys).length c4] _ hhA.row (src_s (alloc_at w4 (.cells #[.slice A4 (rises keys).length c4] 29))) (by omega)
      obtain ⟨A5, c5, rfl, _⟩ := id hrow5.form
      have HFIN := Lib.hid (add_fin HH0.out hbA (HR4.out.below hb5) HO4.out (rises_lt keys) (Nat.le_trans (rises_len keys) (by omega)) hrow5 hg5 ho5 (by omega))
      have hkc : w5.cell? ⟨h, 1, none⟩ = some (.slice Av C.length cv) := add_cell HH0.out hbA hg5
      have hkf : w5.frozen? ⟨h, 1, none⟩ = false := add_frozen HH0.out hbA hg5
      have HR5 := Lib.hid hr5
      clear hb5 hbA hhA hr5 hrow5 hg5 ho5
      refine wpAnyH_ready (rs := [8]) (by kernel_rfl) (by simp) ?_
      refine AllReadyH.cons (o := { dst := some 24, op := Op.call { callee := Callee.builtin Builtin.append, args := #[Operand.tmp 20, Operand.tmp 23], argTypes := #[26, 26] }, type := 26, pos := "valid.go:35", after := #[{ on := 4, ground := Ground.data }, { on := 7, ground := Ground.data }, { on := 6, ground := Ground.chain }], guard := none }) rfl (fun K hK => ?step22) ?more22
      case more22 => exact AllReadyH.nil
      ((refine oper_app_run _ _ _ _ rfl rfl rfl HR5.out ?_ (by kernel_rfl)))
      refine hK.out _ _ ?hS22 (fun hHeld => ?rr22)
      case hS22 => (trivial)
      clear hK K
      try simp only [Act.put, List.setIfInBounds_toArray, List.set_cons_zero, List.set_cons_succ]
      refine wpAnyH_take (i := 9) (oi := { dst := some 25, op := Op.nilCheck (Operand.tmp 16), type := 0, pos := "valid.go:35", after := #[{ on := 0, ground := Ground.data }, { on := 0, ground := Ground.phase }, { on := 1, ground := Ground.phase }, { on := 2, ground := Ground.phase }, { on := 3, ground := Ground.phase }, { on := 4, ground := Ground.phase }, { on := 5, ground := Ground.phase }, { on := 6, ground := Ground.phase }, { on := 7, ground := Ground.phase }, { on := 8, ground := Ground.phase }], guard := none }) (v := ?vv23) rfl (by kernel_rfl) (by kernel_rfl) (by kernel_rfl) (fun _ _ _ h => h) ?hy23 (by assumption) ?rest23
      case hy23 => (refine Or.inl ⟨by rfl, ?_⟩; intro W hSw; (try dsimp only at hSw); go_simp; (try with_reducible rfl))
      try simp only [Act.put, List.setIfInBounds_toArray, List.set_cons_zero, List.set_cons_succ]
      refine wpAnyH_take (i := 10) (oi := { dst := some 26, op := Op.fieldAddr 48 (Operand.tmp 25) 1, type := 0, pos := "valid.go:35", after := #[{ on := 9, ground := Ground.data }, { on := 0, ground := Ground.phase }, { on := 1, ground := Ground.phase }, { on := 2, ground := Ground.phase }, { on := 3, ground := Ground.phase }, { on := 4, ground := Ground.phase }, { on := 5, ground := Ground.phase }, { on := 6, ground := Ground.phase }, { on := 7, ground := Ground.phase }, { on := 8, ground := Ground.phase }], guard := none }) (v := ?vv24) rfl (by kernel_rfl) (by kernel_rfl) (by kernel_rfl) (fun _ _ _ h => h) ?hy24 (by assumption) ?rest24
      case hy24 => (refine Or.inl ⟨by rfl, ?_⟩; intro W hSw; (try dsimp only at hSw); go_simp; (try with_reducible rfl))
      try simp only [Act.put, List.setIfInBounds_toArray, List.set_cons_zero, List.set_cons_succ]
      refine wpAnyH_ready (rs := [11]) (by kernel_rfl) (by simp) ?_
      refine AllReadyH.cons (o := { dst := none, op := Op.store 26 (Operand.tmp 26) (Operand.tmp 24), type := 0, pos := "valid.go:35", after := #[{ on := 10, ground := Ground.data }, { on := 8, ground := Ground.data }, { on := 8, ground := Ground.chain }, { on := 0, ground := Ground.phase }, { on := 1, ground := Ground.phase }, { on := 2, ground := Ground.phase }, { on := 3, ground := Ground.phase }, { on := 4, ground := Ground.phase }, { on := 5, ground := Ground.phase }, { on := 6, ground := Ground.phase }, { on := 7, ground := Ground.phase }, { on := 8, ground := Ground.phase }], guard := none }) rfl (fun K hK => ?step25) ?more25
      case more25 => exact AllReadyH.nil
      ((go_simp; go_wp2_with fail))
      refine hK.out _ _ ?hS25 (fun hHeld => ?rr25)
      case hS25 => (trivial)
      clear hK K
      try simp only [Act.put, List.setIfInBounds_toArray, List.set_cons_zero, List.set_cons_succ]
      refine wpAnyH_done (by kernel_rfl) ?_ _
      clear hHeld hkc hkf
      dsimp only [onlyN]
      have hfin := HFIN.out
      obtain ⟨vs', hh6, hpost⟩ := hfin
      have HNW2 := Lib.hid (now_any hh6.toHistAt hh6.few)
      have HPO := Lib.hid hpost
      clear hh6 hpost
      go_wp2_with fail
      refine (HNW2.out).mono ?_
      rintro e w7 ⟨rfl, rfl⟩
      go_wp2_with fail
      (try simp only [Exit.inBlock, Exit.then])
      refine bodyPost_ret (v := .tuple #[.int .i64 ((F : Int) + ((C ++ [rises keys]).length : Int)), .int .i64 0]) (by simp [results, Tryd.results12, go_sem]) rfl ?_
      exact ⟨by rw [List.length_append]; simp [Int.add_assoc], HPO.out.after (below_drewN (Below.refl _ _) 1)⟩
end Go.Proofs.YtoidfkcecggjfaaDoor
