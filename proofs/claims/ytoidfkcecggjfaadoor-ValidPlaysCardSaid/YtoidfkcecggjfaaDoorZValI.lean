/- slices.Delete of commits; Forget. -/
import Derived.Test.YtoidfkcecggjfaaDoorZValH
set_option linter.unusedSimpArgs false
set_option linter.unusedVariables false
set_option linter.unnecessarySimpa false
namespace Go.Proofs.YtoidfkcecggjfaaDoor
open Go.RowKit Go.Shelf Go.Sort

/-- A slice's three parts. -/
abbrev Sl := Option Addr × Nat × Nat
def encS (x : Sl) : Value := .slice x.1 x.2.1 x.2.2
theorem holds_rowE {w : World} {g cap : Nat} {l : List Sl} (h : RowC w 1 g cap (l.map encS)) : Holds encS w g 0 l.toArray := fun j hj => by
  have hj' : j < l.length := by simpa using hj
  have h1 : (l.map encS)[j]? = some (encS l[j]) := by rw [List.getElem?_map, List.getElem?_eq_getElem hj']; rfl
  have h2 := h.le
  rw [List.length_map] at h2
  refine ⟨?_, ?_⟩
  · rw [Nat.zero_add, h.holds j _ h1]
    simp [hj']
  · rw [Nat.zero_add]
    exact (h.there j (by omega)).2
theorem row_putE {w : World} {g cap n : Nat} {l ts : List Sl} (h : RowC w 1 g cap (l.map encS)) (hl : ts.length = l.length) : RowC (putRow encS (Sort.ahead w n) g 0 ts.toArray) 1 g cap (ts.map encS) := by
  have hH := holds_rowE h
  have h2 := h.le
  rw [List.length_map] at h2
  have hP : Holds encS (putRow encS (Sort.ahead w n) g 0 ts.toArray) g 0 ts.toArray := holds_putRow _ _ _ _ _ _ (holds_ahead _ _ n _ _ _ hH) (by simpa using hl)
  refine ⟨by rw [size_putRow]; exact h.lt, by rw [List.length_map]; omega, h.max, fun j b hj => ?_, fun j hj => ?_⟩
  · have hj' : j < ts.length := by have := (List.getElem?_eq_some_iff.1 hj).1; rwa [List.length_map] at this
    have h1 : (ts.map encS)[j]? = some (encS ts[j]) := by rw [List.getElem?_map, List.getElem?_eq_getElem hj']; rfl
    rw [h1] at hj
    have h3 := (hP j (by simpa using hj')).1
    rw [Nat.zero_add] at h3
    rw [h3, ← hj]
    simp [hj']
  · refine ⟨?_, by rw [frozen?_putRow]; exact (h.there j hj).2⟩
    by_cases hjl : j < ts.length
    · have h3 := (hP j (by simpa using hjl)).1
      rw [Nat.zero_add] at h3
      rw [h3]
      rfl
    · rw [cell?_putRow_other _ _ _ _ _ _ (.inr (.inr (by simp; omega)))]
      exact (h.there j hj).1
theorem touch_putE (w : World) (g n : Nat) (d : Array Sl) : Touch (fun k => k = g) w (putRow encS (Sort.ahead w n) g 0 d) :=
  ⟨rfl, rfl, rfl, by simp, fun k hk hne => by
    have : g ≠ k := fun e => hne e.symm
    simp [putRow, mapBlock, Sort.ahead, Array.getElem?_modify, this]⟩
set_option maxRecDepth 100000 in
set_option maxHeartbeats 1000000 in
theorem delete_nil (w : World) : Calls Tryd.prog 29 #[.slice none 0 0, .int .i64 0, .int .i64 0] w fun e w' => e = .returned (.slice none 0 0) ∧ w' = w := by
  go_enter Tryd.func29, Tryd.ntmps29
  go_wp2
  go_ret
  exact ⟨rfl, rfl⟩
theorem delete_row {w : World} {v : Value} {n k : Nat} {l : List Sl} (h : RowIs w 1 v n (l.map encS)) (hk : k ≤ n) (hl : n ≤ 1000000) :
    Calls Tryd.prog 29 #[v, .int .i64 0, .int .i64 k] w fun e w' => ∃ v', e = .returned v' ∧ RowIs w' 1 v' (n - k) ((l.drop k).map encS) ∧ v'.ownBlock = v.ownBlock ∧ Touch (fun b => v.ownBlock = some b) w w' := by
  have hlen := h.len
  rw [List.length_map] at hlen
  rcases h with ⟨rfl, h1, h2⟩ | ⟨g, cap, rfl, h1, h2, h3⟩
  · obtain rfl : n = 0 := h1
    obtain rfl : k = 0 := by omega
    refine (delete_nil w).mono ?_
    rintro e w' ⟨rfl, rfl⟩
    have hl0 : l = [] := List.eq_nil_of_length_eq_zero (by omega)
    subst hl0
    exact ⟨_, rfl, RowIs.nil _ _, rfl, Touch.refl _ _⟩
  · obtain ⟨i0, hi, hzz, hz1, hz2⟩ := info_parts infoS
    obtain rfl : n = l.length := by omega
    have hm := h3.max
    unfold maxLen at hm
    refine (AnyE.slices_Delete Tryd.deleteA encS (fun x => rfl) (none, 0, 0) (fun w => by kernel_rfl) i0 hi hz1 g 0 cap 0 k l.toArray w (holds_rowE h3) (by simpa using h2) (by omega) (by omega) (by simpa using hk)).mono ?_
    rintro e w' ⟨rfl, q, rfl⟩
    have hp := row_putE (n := q) (ts := l.drop k ++ List.replicate k (none, 0, 0)) h3 (by rw [List.length_append, List.length_replicate, List.length_drop]; omega)
    refine ⟨.slice (some ⟨g, 0, none⟩) (l.length - k) cap, by simp, .inr ⟨g, cap, rfl, by rw [List.length_map, List.length_drop]; omega, by omega, ?_⟩, rfl, ?_⟩
    · rw [List.map_append] at hp
      simpa using hp.less
    · exact ((touch_putE w g q _).mono (fun k _ e => by rw [e]; rfl))
theorem vs_slices {w : World} {h F : Nat} {v : Value} {vs : List Value} {C : List (List K)} (hh : HistAt w h v F vs C) : ∃ l : List Sl, vs = l.map encS := by
  have : ∀ u ∈ vs, ∃ x : Sl, u = encS x := fun u hu => by
    obtain ⟨i, hi⟩ := List.mem_iff_getElem?.1 hu
    have hil := (List.getElem?_eq_some_iff.1 hi).1
    rw [hh.len] at hil
    obtain ⟨u0, hu0, hr0, _⟩ := hh.each i C[i] (List.getElem?_eq_getElem hil)
    rw [hi] at hu0
    obtain rfl := Option.some.inj hu0
    obtain ⟨A, c, e, _⟩ := hr0.form
    exact ⟨(A, _, c), e⟩
  clear hh
  induction vs with
  | nil => exact ⟨[], rfl⟩
  | cons u vs ih =>
    obtain ⟨x, hx⟩ := this u (List.mem_cons_self ..)
    obtain ⟨l, hl⟩ := ih (fun u hu => this u (List.mem_cons_of_mem _ hu))
    exact ⟨x :: l, by rw [hx, hl]; rfl⟩
/-- How many commits Forget lets go. -/
def forgetN (F len : Nat) (below : Int) : Nat := if below ≤ (F : Int) then 0 else min (below.toNat - 1) (F + len) - F
theorem forgetN_le (F len : Nat) (below : Int) : forgetN F len below ≤ len := by
  unfold forgetN
  split <;> omega
/-- What Forget leaves. -/
def ForgetPost (w : World) (h : Nat) (v : Value) (F : Nat) (vs : List Value) (C : List (List K)) (k : Nat) (w' : World) : Prop := ∃ v', HH w' h v' (F + k) (vs.drop k) (C.drop k) ∧ Touch (fun b => b = h ∨ v.ownBlock = some b) w w' ∧ v'.ownBlock = v.ownBlock
theorem forget_fin {w wA w5 : World} {h F k : Nat} {v v5 : Value} {vs : List Value} {C : List (List K)} (hh : HH w h v F vs C) (hb : Below w.heap.size w wA) (hk : k ≤ C.length) (hrow : RowIs w5 1 v5 (C.length - k) (vs.drop k)) (ho : v5.ownBlock = v.ownBlock) (ht : Touch (fun b => v.ownBlock = some b) wA w5) :
    ForgetPost w h v F vs C k ((w5.setCell ⟨h, 1, none⟩ v5).setCell ⟨h, 0, none⟩ (.int .i64 ((F + k : Nat) : Int))) := by
  have h1 := hh.below hb
  have hgl := hh.glob.lt
  have hhl := heap_lt hh.head
  have ht2 : Touch (fun b => b = h) w5 ((w5.setCell ⟨h, 1, none⟩ v5).setCell ⟨h, 0, none⟩ (.int .i64 ((F + k : Nat) : Int))) := Touch.setCell (S := fun b => b = h) (Touch.setCell (S := fun b => b = h) (Touch.refl _ w5) ⟨h, 1, none⟩ (fun _ => rfl) v5) ⟨h, 0, none⟩ (fun _ => rfl) _
  have htA : Touch (fun b => b = h ∨ v.ownBlock = some b) wA ((w5.setCell ⟨h, 1, none⟩ v5).setCell ⟨h, 0, none⟩ (.int .i64 ((F + k : Nat) : Int))) := (ht.mono fun i _ e => .inr e).trans ht2 (fun i _ e => .inl e)
  have htW := htA.ahead hb
  have hhd := (ht.block h (heap_lt h1.head) (fun e => h1.off e)).trans h1.head
  have hv5h : v5.ownBlock ≠ some h := fun e => hh.off (ho ▸ e)
  refine ⟨v5, ⟨⟨?_, ?_, fun i ks hi => ?_, hv5h, by simp [hh.len]⟩, fun x hx => hh.good x (List.mem_of_mem_drop hx), by have := hh.few; rw [List.length_drop]; omega, hh.glob.touch htW (fun e => ?_), fun e => hh.free (ho ▸ e), hh.hfree⟩, htW, ho⟩
  · have := set_at (set_at hhd 1 v5) 0 (.int .i64 ((F + k : Nat) : Int))
    simpa using this
  · rw [List.length_drop]
    exact RowIs.touch hrow ht2 fun g e e2 => hv5h (e2 ▸ e)
  · rw [List.getElem?_drop] at hi
    obtain ⟨u0, hu0, hr0, a, c⟩ := hh.each _ ks hi
    refine ⟨u0, by rw [List.getElem?_drop]; exact hu0, RowIs.touch hr0 htW fun g e e2 => ?_, a, fun g e e2 => c g e (ho ▸ e2)⟩
    rcases e2 with e2 | e2
    · exact a (e2 ▸ e)
    · exact c g e e2
  · rcases e with e | e
    · exact hh.hfree e.symm
    · exact hh.free e
set_option maxRecDepth 100000 in
set_option maxHeartbeats 8000000 in
theorem Forget_any {w : World} {h F : Nat} {v : Value} {vs : List Value} {C : List (List K)} {lo : Int} (hh : HH w h v F vs C) (hlo : lo ≤ 9223372036854775807) :
    Calls Tryd.prog 15 #[.pointer (some ⟨h, 0, none⟩), .int .i64 lo] w fun e w' => e = .returned (.int .i64 (forgetN F C.length lo)) ∧ ForgetPost w h v F vs C (forgetN F C.length lo) w' := by
  have hfew := hh.few
  have kF : w.cell? ⟨h, 0, none⟩ = some (.int .i64 F) := cell_of hh.head 0
  by_cases hle : lo ≤ (F : Int)
  · have hn : forgetN F C.length lo = 0 := by unfold forgetN; rw [if_pos hle]
    rw [hn]
    have HP : Hid (ForgetPost w h v F vs C 0 w) := Lib.hid ⟨v, hh, Touch.refl _ _, rfl⟩
    clear hh hfew hn
    go_enter Tryd.func15, Tryd.ntmps15
    go_wp2_with fail
    go_ret
    exact ⟨rfl, HP.out⟩
  · obtain ⟨k, hk⟩ : ∃ k, k = forgetN F C.length lo := ⟨_, rfl⟩
    rw [← hk]
    have hkv : (k : Int) = min (lo - 1) ((F : Int) + (C.length : Int)) - (F : Int) := by
      rw [hk]
      unfold forgetN
      rw [if_neg hle]
      omega
    have hkl : k ≤ C.length := by rw [hk]; exact forgetN_le ..
    obtain ⟨l, hl⟩ := vs_slices hh.toHistAt
    obtain ⟨Av, cv, rfl, hv1, hv2, hv3, hv4, _⟩ := id hh.row.form
    have HH0 := Lib.hid hh
    have HNW := Lib.hid (now_any (w := w.drew) (hh.below (below_drew (Below.refl _ _))).toHistAt hfew)
    have hrow : RowIs (w.drewN 2) 1 (.slice Av C.length cv) C.length (l.map encS) := by
      rw [← hl]
      exact (hh.below (below_drewN (Below.refl _ _) 2)).row
    have HDE := Lib.hid (delete_row hrow hkl (by omega))
    have hw1 : IntKind.i64.wrap (lo - 1) = lo - 1 := IntWalk.i64_in _ (by omega)
    have hw2 : IntKind.i64.wrap (min (lo - 1) ((F : Int) + (C.length : Int)) - (F : Int)) = (k : Int) := by rw [← hkv]; exact IntWalk.i64_in _ (by omega)
    have hle' : (lo ≤ (F : Int)) = False := eq_false hle
    have HKV := Lib.hid hkv
    clear hh hk hkv hle hrow
    go_enter Tryd.func15, Tryd.ntmps15
    go_wp2_with fail
    refine wp_only ?_
    refine wp_region_held_drew (S := fun W => W.cell? ⟨h, 0, none⟩ = some (.int .i64 F)) (by kernel_rfl) kF (fun hHeld => ?_)
    refine wpAnyH_take (i := 0) (oi := { dst := some 16, op := Op.move (Operand.tmp 1), type := 3, pos := "valid.go:65", after := #[], guard := none }) (v := ?vv1) rfl (by kernel_rfl) (by kernel_rfl) (by kernel_rfl) (fun _ _ _ h => h) ?hy1 (by assumption) ?rest1
    case hy1 => (refine Or.inl ⟨by rfl, ?_⟩; intro W hSw; (try dsimp only at hSw); go_simp; (try with_reducible rfl))
    try simp only [Act.put, List.setIfInBounds_toArray, List.set_cons_zero, List.set_cons_succ]
    refine wpAnyH_take (i := 1) (oi := { dst := some 17, op := Op.binOp BinOp.sub 3 (Operand.tmp 16) (Operand.const (Value.int IntKind.i64 1)) 3, type := 3, pos := "valid.go:65", after := #[{ on := 0, ground := Ground.data }], guard := none }) (v := ?vv2) rfl (by kernel_rfl) (by kernel_rfl) (by kernel_rfl) (fun _ _ _ h => h) ?hy2 (by assumption) ?rest2
    case hy2 => (refine Or.inl ⟨by rfl, ?_⟩; intro W hSw; (try dsimp only at hSw); go_simp; (try with_reducible rfl))
    try simp only [Act.put, List.setIfInBounds_toArray, List.set_cons_zero, List.set_cons_succ]
    refine wpAnyH_take (i := 2) (oi := { dst := some 18, op := Op.move (Operand.tmp 0), type := 23, pos := "valid.go:65", after := #[], guard := none }) (v := ?vv3) rfl (by kernel_rfl) (by kernel_rfl) (by kernel_rfl) (fun _ _ _ h => h) ?hy3 (by assumption) ?rest3
    case hy3 => (refine Or.inl ⟨by rfl, ?_⟩; intro W hSw; (try dsimp only at hSw); go_simp; (try with_reducible rfl))
    try simp only [Act.put, List.setIfInBounds_toArray, List.set_cons_zero, List.set_cons_succ]
    refine wpAnyH_take (i := 5) (oi := { dst := some 21, op := Op.move (Operand.tmp 0), type := 23, pos := "valid.go:65", after := #[], guard := none }) (v := ?vv4) rfl (by kernel_rfl) (by kernel_rfl) (by kernel_rfl) (fun _ _ _ h => h) ?hy4 (by assumption) ?rest4
    case hy4 => (refine Or.inl ⟨by rfl, ?_⟩; intro W hSw; (try dsimp only at hSw); go_simp; (try with_reducible rfl))
    try simp only [Act.put, List.setIfInBounds_toArray, List.set_cons_zero, List.set_cons_succ]
    refine wpAnyH_take (i := 6) (oi := { dst := some 22, op := Op.nilCheck (Operand.tmp 21), type := 0, pos := "valid.go:65", after := #[{ on := 5, ground := Ground.data }], guard := none }) (v := ?vv5) rfl (by kernel_rfl) (by kernel_rfl) (by kernel_rfl) (fun _ _ _ h => h) ?hy5 (by assumption) ?rest5
    case hy5 => (refine Or.inl ⟨by rfl, ?_⟩; intro W hSw; (try dsimp only at hSw); go_simp; (try with_reducible rfl))
    try simp only [Act.put, List.setIfInBounds_toArray, List.set_cons_zero, List.set_cons_succ]
    refine wpAnyH_take (i := 7) (oi := { dst := some 23, op := Op.fieldAddr 48 (Operand.tmp 22) 0, type := 0, pos := "valid.go:65", after := #[{ on := 6, ground := Ground.data }], guard := none }) (v := ?vv6) rfl (by kernel_rfl) (by kernel_rfl) (by kernel_rfl) (fun _ _ _ h => h) ?hy6 (by assumption) ?rest6
    case hy6 => (refine Or.inl ⟨by rfl, ?_⟩; intro W hSw; (try dsimp only at hSw); go_simp; (try with_reducible rfl))
    try simp only [Act.put, List.setIfInBounds_toArray, List.set_cons_zero, List.set_cons_succ]
    refine wpAnyH_take (i := 8) (oi := { dst := some 24, op := Op.load 3 (Operand.tmp 23), type := 3, pos := "valid.go:65", after := #[{ on := 7, ground := Ground.data }], guard := none }) (v := ?vv7) rfl (by kernel_rfl) (by kernel_rfl) (by kernel_rfl) (fun _ _ _ h => h) ?hy7 (by assumption) ?rest7
    case hy7 => (refine Or.inl ⟨by rfl, ?_⟩; intro W hSw; (try dsimp only at hSw); go_simp; (try with_reducible rfl))
    try simp only [Act.put, List.setIfInBounds_toArray, List.set_cons_zero, List.set_cons_succ]
    refine wpAnyH_ready (rs := [3]) (by kernel_rfl) (by simp) ?_
    refine AllReadyH.cons (o := { dst := some 19, op := Op.call { callee := Callee.value (Operand.func 8), args := #[Operand.tmp 18], argTypes := #[23] }, type := 3, pos := "valid.go:65", after := #[{ on := 2, ground := Ground.data }], guard := none }) rfl (fun K hK => ?step8) ?more8
    case more8 => exact AllReadyH.nil
    ((go_simp; go_at_call 8; refine (HNW.out).mono ?_; rintro e w2 ⟨rfl, rfl⟩; go_wp2_with fail))
    refine hK.out _ _ ?hS8 (fun hHeld => ?rr8)
    case hS8 => (exact kF)
    clear hK K
    try simp only [Act.put, List.setIfInBounds_toArray, List.set_cons_zero, List.set_cons_succ]
    refine wpAnyH_ready (rs := [4]) (by kernel_rfl) (by simp) ?_
    refine AllReadyH.cons (o := { dst := some 20, op := Op.call { callee := Callee.builtin Builtin.min, args := #[Operand.tmp 17, Operand.tmp 19], argTypes := #[3, 3] }, type := 3, pos := "valid.go:65", after := #[{ on := 1, ground := Ground.data }, { on := 3, ground := Ground.data }], guard := none }) rfl (fun K hK => ?step9) ?more9
    case more9 => exact AllReadyH.nil
    ((go_simp; go_wp2_with fail))
    refine hK.out _ _ ?hS9 (fun hHeld => ?rr9)
    case hS9 => (exact kF)
    clear hK K
    try simp only [Act.put, List.setIfInBounds_toArray, List.set_cons_zero, List.set_cons_succ]
    refine wpAnyH_take (i := 9) (oi := { dst := some 25, op := Op.binOp BinOp.sub 3 (Operand.tmp 20) (Operand.tmp 24) 3, type := 3, pos := "valid.go:65", after := #[{ on := 4, ground := Ground.data }, { on := 8, ground := Ground.data }], guard := none }) (v := ?vv10) rfl (by kernel_rfl) (by kernel_rfl) (by kernel_rfl) (fun _ _ _ h => h) ?hy10 (by assumption) ?rest10
    case hy10 => (refine Or.inl ⟨by rfl, ?_⟩; intro W hSw; (try dsimp only at hSw); go_simp; (try with_reducible rfl))
    try simp only [Act.put, List.setIfInBounds_toArray, List.set_cons_zero, List.set_cons_succ]
    refine wpAnyH_take (i := 10) (oi := { dst := some 5, op := Op.assign (Operand.tmp 25), type := 3, pos := "valid.go:65", after := #[{ on := 9, ground := Ground.data }, { on := 3, ground := Ground.chain }, { on := 0, ground := Ground.phase }, { on := 1, ground := Ground.phase }, { on := 2, ground := Ground.phase }, { on := 3, ground := Ground.phase }, { on := 4, ground := Ground.phase }, { on := 5, ground := Ground.phase }, { on := 6, ground := Ground.phase }, { on := 7, ground := Ground.phase }, { on := 8, ground := Ground.phase }, { on := 9, ground := Ground.phase }], guard := none }) (v := ?vv11) rfl (by kernel_rfl) (by kernel_rfl) (by kernel_rfl) (fun _ _ _ h => h) ?hy11 (by assumption) ?rest11
    case hy11 => (refine Or.inl ⟨by rfl, ?_⟩; intro W hSw; (try dsimp only at hSw); go_simp; (try with_reducible rfl))
    try simp only [Act.put, List.setIfInBounds_toArray, List.set_cons_zero, List.set_cons_succ]
    refine wpAnyH_done (by kernel_rfl) ?_ _
    clear hHeld
    dsimp only [onlyN]
    have kc2 : (w.drewN 2).cell? ⟨h, 1, none⟩ = some (.slice Av C.length cv) := cell_of HH0.out.head 1
    clear HNW kF
    go_wp2_with fail
    refine (HDE.out).mono ?_
    rintro e w5 ⟨v5, rfl, hr5, ho5, ht5⟩
    have hh2 := HH0.out.below (below_drewN (Below.refl _ _) 2)
    have hhd := (ht5.block h (heap_lt hh2.head) (fun e => hh2.off e)).trans hh2.head
    obtain ⟨A5, c5, rfl, _⟩ := id hr5.form
    rw [List.map_drop, ← hl] at hr5
    have HFI := Lib.hid (forget_fin HH0.out (below_drewN (Below.refl _ _) 2) hkl hr5 ho5 ht5)
    have k50 : w5.cell? ⟨h, 0, none⟩ = some (.int .i64 F) := cell_of hhd 0
    have k51 : w5.cell? ⟨h, 1, none⟩ = some (.slice Av C.length cv) := cell_of hhd 1
    have f50 : w5.frozen? ⟨h, 0, none⟩ = false := free0 hhd 0
    have f51 : w5.frozen? ⟨h, 1, none⟩ = false := free0 hhd 1
    have hw3 : IntKind.i64.wrap ((F : Int) + (k : Int)) = ((F + k : Nat) : Int) := by rw [IntWalk.i64_in _ (by omega)]; omega
    obtain ⟨fk, hfk⟩ : ∃ fk : Int, fk = ((F + k : Nat) : Int) := ⟨_, rfl⟩
    rw [← hfk] at HFI hw3
    clear hr5 ho5 ht5 hh2 hhd HDE hfk hl
    go_wp2_with fail
    go_ret
    exact ⟨rfl, HFI.out⟩
end Go.Proofs.YtoidfkcecggjfaaDoor
