/- Numbers under numbers, in memory (walk.gone); meet. -/
import Derived.Test.YtlbhpeeggbfcpaaZWaiC
set_option linter.unusedSimpArgs false
set_option linter.unusedVariables false
set_option linter.unnecessarySimpa false
namespace Go.Proofs.Ytlbhpeeggbfcpaa
open Go.RowKit
open Go.Maps (Keyed)

abbrev Nu := List (Int × Int)
def hasN (N : Nu) (x : Int) : Bool := N.any fun e => e.1 == x
def getN (N : Nu) (x : Int) : Int := ((N.find? fun e => e.1 == x).map (·.2)).getD 0
def putN (N : Nu) (x y : Int) : Nu := if hasN N x then N.map (fun e => if e.1 = x then (e.1, y) else e) else N ++ [(x, y)]
structure NAt (P : Program) (K : TypeId) (w : World) (m : Nat) (N : Nu) (L : List MapEntry) (clock : Nat) : Prop where
  map : MapIs P K w m L clock
  len : L.length = N.length
  each : ∀ (i : Nat) (e : MapEntry) (x : Int × Int), L[i]? = some e → N[i]? = some x → e.key = .int .i64 x.1 ∧ e.val = .int .i64 x.2
section
variable {P : Program} {K E M : TypeId} {w w' : World} {m clock : Nat} {N : Nu} {L : List MapEntry}
theorem NAt.keep (h : NAt P K w m N L clock) (hk : w'.heap[m]? = w.heap[m]?) : NAt P K w' m N L clock := ⟨h.map.keep hk, h.len, h.each⟩
theorem NAt.made (P : Program) (K : TypeId) (w : World) : NAt P K (w.alloc (.map #[] 0)) w.heap.size [] [] 0 := ⟨MapIs.made P K w, rfl, (fun i e x h => by simp at h)⟩
theorem NAt.nodup (h : NAt P K w m N L clock) : (N.map (·.1)).Nodup := by
  have h1 := h.map.one
  have : L.map (·.key) = (N.map (·.1)).map (Value.int .i64) := by
    apply List.ext_getElem?
    intro i
    rw [List.getElem?_map, List.getElem?_map, List.getElem?_map]
    by_cases hi : i < L.length
    · have h2 : L[i]? = some L[i] := List.getElem?_eq_getElem hi
      have h3 : N[i]? = some (N[i]'(by rw [← h.len]; exact hi)) := List.getElem?_eq_getElem _
      rw [h2, h3]
      show some L[i].key = some _
      rw [(h.each i _ _ h2 h3).1]
    · rw [List.getElem?_eq_none (by omega), List.getElem?_eq_none (by rw [← h.len]; omega)]
      rfl
  rw [this] at h1
  rw [List.Nodup, List.pairwise_map] at h1
  exact h1.imp (fun hab e => hab (congrArg _ e))
theorem nfind {N : Nu} (h : (N.map (·.1)).Nodup) {j : Nat} {x y : Int} (hj : N[j]? = some (x, y)) : N.find? (fun e => e.1 == x) = some (x, y) := by
  induction N generalizing j with
  | nil => simp at hj
  | cons z N ih =>
    rw [List.map_cons, List.nodup_cons] at h
    cases j with
    | zero =>
      obtain rfl : z = (x, y) := by simpa using hj
      simp
    | succ j =>
      rw [List.getElem?_cons_succ] at hj
      have hm : (x, y) ∈ N := List.mem_of_getElem? hj
      have hne : z.1 ≠ x := fun e => h.1 (List.mem_map.2 ⟨_, hm, e.symm⟩)
      rw [List.find?_cons_of_neg (by simpa using hne)]
      exact ih h.2 hj
theorem nhit {N : Nu} (h : (N.map (·.1)).Nodup) {j : Nat} {x y : Int} (hj : N[j]? = some (x, y)) : getN N x = y ∧ hasN N x = true := by
  refine ⟨by unfold getN; rw [nfind h hj]; rfl, ?_⟩
  unfold hasN
  rw [List.any_eq_true]
  exact ⟨_, List.mem_of_getElem? hj, by simp⟩
theorem nset {N : Nu} (h : (N.map (·.1)).Nodup) {j : Nat} {x y y' : Int} (hj : N[j]? = some (x, y)) : N.map (fun e => if e.1 = x then (e.1, y') else e) = N.set j (x, y') := by
  apply List.ext_getElem?
  intro i
  rw [List.getElem?_map, List.getElem?_set]
  by_cases hij : j = i
  · subst hij
    rw [if_pos rfl, if_pos (List.getElem?_eq_some_iff.1 hj).1, hj]
    simp
  · rw [if_neg hij]
    cases hi : N[i]? with
    | none => rfl
    | some z =>
      have hne : z.1 ≠ x := fun e => by
        rw [List.Nodup, List.pairwise_iff_getElem] at h
        obtain ⟨hi1, hi2⟩ := List.getElem?_eq_some_iff.1 hi
        obtain ⟨hj1, hj2⟩ := List.getElem?_eq_some_iff.1 hj
        rcases Nat.lt_or_gt_of_ne hij with hlt | hlt
        · exact h j i (by simpa using hj1) (by simpa using hi1) hlt (by simp [hi2, hj2, e])
        · exact h i j (by simpa using hi1) (by simpa using hj1) hlt (by simp [hi2, hj2, e])
      show some (if z.1 = x then _ else z) = some z
      rw [if_neg hne]
/-- What stands under a number, and another number put there. -/
theorem NAt.bump (h : NAt P K w m N L clock) (KK : Keyed P K) (hM : P.underlying M = some (.map K E)) (hz : ∀ W : World, (zeroValue E).run P W = .ok (.int .i64 0) W) {x : Int} (hx : keyOf P K (.int .i64 x) = some (.int .i64 x)) :
    (∀ W : World, W.heap[m]? = w.heap[m]? → (Instr.lookup M (.map (some m)) (.int .i64 x) false).run P W = .ok (.int .i64 (getN N x)) W ∧ (Instr.lookup M (.map (some m)) (.int .i64 x) true).run P W = .ok (.tuple #[.int .i64 (getN N x), .bool (hasN N x)]) W) ∧
      ∀ (w1 : World) (y : Int), w1.heap[m]? = w.heap[m]? → ∃ w2 L' clock', (Instr.mapUpdate M (.map (some m)) (.int .i64 x) (.int .i64 y)).run P w1 = .ok () w2 ∧ NAt P K w2 m (putN N x y) L' clock' ∧ Touch (fun k => k = m) w1 w2 := by
  by_cases hc : ∃ e ∈ L, e.key = .int .i64 x
  · obtain ⟨e, he, hk⟩ := hc
    obtain ⟨j, hj⟩ := List.getElem?_of_mem he
    have hl : j < N.length := by rw [← h.len]; exact (List.getElem?_eq_some_iff.1 hj).1
    have hg : N[j]? = some N[j] := List.getElem?_eq_getElem hl
    obtain ⟨h1, h2⟩ := h.each j e _ hj hg
    generalize N[j] = z at hg h1 h2
    obtain ⟨x', y0⟩ := z
    obtain rfl : x = x' := by rw [hk] at h1; injection h1
    obtain ⟨ha, hh⟩ := nhit h.nodup hg
    refine ⟨fun W hW => ?_, fun w1 y hw1 => ?_⟩
    · have r1 := (h.keep hW).map.look_hit KK hM hx hj hk false
      have r2 := (h.keep hW).map.look_hit KK hM hx hj hk true
      rw [h2] at r1 r2
      rw [ha, hh]
      exact ⟨r1, r2⟩
    · obtain ⟨r1, r2⟩ := (h.keep hw1).map.put_hit KK hM (v := .int .i64 y) hx hj hk
      refine ⟨_, _, _, r1, ⟨r2, ?_, ?_⟩, (Touch.refl (fun k => k = m) w1).set m _ (fun _ => rfl)⟩
      · unfold putN; rw [if_pos hh, List.length_set, List.length_map]; exact h.len
      · intro i e' z hi hz'
        unfold putN at hz'
        rw [if_pos hh, nset h.nodup hg, List.getElem?_set] at hz'
        rw [List.getElem?_set] at hi
        by_cases hij : j = i
        · subst hij
          rw [if_pos rfl, if_pos hl] at hz'
          rw [if_pos rfl, if_pos (by rw [h.len]; exact hl)] at hi
          obtain rfl := Option.some.inj hi
          obtain rfl := Option.some.inj hz'
          exact ⟨hk, rfl⟩
        · rw [if_neg hij] at hz' hi
          exact h.each i e' z hi hz'
  · have hn : ∀ e ∈ L, e.key ≠ .int .i64 x := fun e he hk => hc ⟨e, he, hk⟩
    have hn' : ∀ y ∈ N, y.1 ≠ x := fun y hy e => by
      obtain ⟨j, hj⟩ := List.getElem?_of_mem hy
      have hl : j < L.length := by rw [h.len]; exact (List.getElem?_eq_some_iff.1 hj).1
      have h2 : L[j]? = some L[j] := List.getElem?_eq_getElem hl
      exact hn _ (List.getElem_mem hl) (by rw [(h.each j _ _ h2 hj).1, e])
    have hh : hasN N x = false := by
      unfold hasN
      rw [List.any_eq_false]
      exact fun y hy => by simpa using hn' y hy
    have ha : getN N x = 0 := by
      unfold getN
      rw [List.find?_eq_none.2 (fun y hy => by simpa using hn' y hy)]
      rfl
    refine ⟨fun W hW => ?_, fun w1 y hw1 => ?_⟩
    · have r1 := (h.keep hW).map.look_miss KK hM (hz W) hx hn false
      have r2 := (h.keep hW).map.look_miss KK hM (hz W) hx hn true
      rw [ha, hh]
      exact ⟨r1, r2⟩
    · obtain ⟨r1, r2⟩ := (h.keep hw1).map.put_miss KK hM (v := .int .i64 y) hx hn
      refine ⟨_, _, _, r1, ⟨r2, ?_, ?_⟩, (Touch.refl (fun k => k = m) w1).set m _ (fun _ => rfl)⟩
      · unfold putN; rw [hh]; simp [h.len]
      · intro i e' z hi hz'
        unfold putN at hz'
        rw [hh] at hz'
        replace hz' : (N ++ [(x, y)])[i]? = some z := hz'
        by_cases hil : i < L.length
        · rw [List.getElem?_append_left hil] at hi
          rw [List.getElem?_append_left (by rw [← h.len]; exact hil)] at hz'
          exact h.each i e' z hi hz'
        · have hi1 : i = L.length := by
            have := (List.getElem?_eq_some_iff.1 hi).1
            rw [List.length_append, List.length_singleton] at this
            omega
          subst hi1
          rw [List.getElem?_append_right (Nat.le_refl _), Nat.sub_self] at hi
          rw [h.len, List.getElem?_append_right (Nat.le_refl _), Nat.sub_self] at hz'
          obtain rfl := Option.some.inj hi
          obtain rfl := Option.some.inj hz'
          exact ⟨rfl, rfl⟩
end
theorem wpList_app_run {P : Program} {w w' : World} {ops : Array Oper} {rest : List Oper} {o : Oper} {a : Act} {Q : Exit → Act → World → Prop} (hg : o.guard = none) (s x : Operand) (T tx : TypeId) (ho : o.op = .call { callee := .builtin .append, args := #[s, x], argTypes := #[T, tx] }) {u v v' : Value} (hs : a.eval s = u) (hx : a.eval x = v) (hrun : (Builtin.append_ #[T, tx] o.type #[u, v]).run P w = .ok v' w') (hK : wpList P ops Q rest (a.put o.dst v') w') : wpList P ops Q (o :: rest) a w :=
  wpList_plain hg fun K' hK' => by
    unfold Oper.wp execOp
    simp only [ho, resolve, invoke, builtin, Sem.run_bind, Sem.run_pure, Result.andThen_ok, List.map_toArray, List.map_cons, List.map_nil, hs, hx, hrun]
    exact hK' _ _ hK
theorem zeroN (w : World) : (zeroValue 3).run Try.prog w = .ok (.int .i64 0) w := by kernel_rfl
/-- Where a walk goes on: a row of one's own, apart from the map of those that were met. -/
def meetP (N : Nu) (path : List Int) (x : Int) : Nu × List Int := if hasN N x then (N, path) else (putN N x 0, path ++ [x])
set_option maxRecDepth 100000 in
set_option maxHeartbeats 1000000 in
theorem meet_any {w : World} {g m clock : Nat} {N : Nu} {L : List MapEntry} {v : Value} {path : List Int} {x : Int} (h : NAt Try.prog 3 w m N L clock) (hv : RowIs w 1 v path.length (ints path)) (hvm : v.ownBlock ≠ some m) (hx : InR64 x) (hl : path.length ≤ 1000000) :
    Calls Try.prog 44 #[.agg #[.map (some g), .map (some m)], v, .int .i64 x] w fun e w' => ∃ v' L' clock', e = .returned v' ∧ NAt Try.prog 3 w' m (meetP N path x).1 L' clock' ∧ RowIs w' 1 v' (meetP N path x).2.length (ints (meetP N path x).2) ∧ (∀ k, v'.ownBlock = some k → v.ownBlock = some k ∨ w.heap.size ≤ k) ∧ Touch (fun k => k = m ∨ v.ownBlock = some k) w w' := by
  obtain ⟨hlk, hput⟩ := h.bump keyedI Try.underlying69 zeroN (keyI hx)
  have hlt := h.map.lt
  have hbn := below_new (w := w) (.cells #[.map (some g), .map (some m)] 71)
  have lk := (hlk (w.alloc (.cells #[.map (some g), .map (some m)] 71)) (hbn.block m hlt)).2
  have H := Lib.hid h
  have HV := Lib.hid hv
  have HBN := Lib.hid hbn
  by_cases hh : hasN N x = true
  · have HP : Hid (meetP N path x = (N, path)) := Lib.hid (by unfold meetP; rw [if_pos hh])
    rw [hh] at lk
    clear hh hlk hput h hv hbn
    go_enter Try.func44, Try.ntmps44
    go_wp2_with (at_lookup; refine wpList_look_run rfl _ _ _ _ rfl rfl rfl lk ?_)
    go_ret
    rw [HP.out]
    exact ⟨v, L, clock, rfl, H.out.keep (HBN.out.block m hlt), HV.out.below HBN.out, fun k hk => .inl hk, Touch.of_below HBN.out⟩
  · have HP : Hid (meetP N path x = (putN N x 0, path ++ [x])) := Lib.hid (by unfold meetP; rw [if_neg hh])
    have hh' : hasN N x = false := by simpa using hh
    rw [hh'] at lk
    obtain ⟨w2, L2, clock2, hr2, hn2, ht2⟩ := hput (w.alloc (.cells #[.map (some g), .map (some m)] 71)) 0 (hbn.block m hlt)
    have hc0 : w2.cell? ⟨w.heap.size, 1, none⟩ = some (.map (some m)) := by
      have e1 : w2.heap[w.heap.size]? = (w.alloc (.cells #[.map (some g), .map (some m)] 71)).heap[w.heap.size]? := ht2.block _ (by rw [asz]; omega) (fun e => by omega)
      rw [World.cell?_of_block (a := ⟨w.heap.size, 1, none⟩) e1]
      exact cell_of (alloc_at w _) 1
    have hv2 : RowIs w2 1 v path.length (ints path) := (hv.below hbn).touch ht2 (fun k hk e => hvm (by rw [hk, e]))
    obtain ⟨v3, w3, hr3, hv3, ht3, ho3⟩ := app_int x 30 hv2 (by omega)
    have HN3 : Hid (NAt Try.prog 3 w3 m (putN N x 0) L2 clock2) := Lib.hid (hn2.keep (ht3.block m hn2.map.lt hvm))
    have HV3 := Lib.hid hv3
    have HO3 : Hid (∀ k, v3.ownBlock = some k → v.ownBlock = some k ∨ w.heap.size ≤ k) := Lib.hid (fun k hk => (ho3 k hk).imp id (fun h => by have := hbn.size; have := ht2.size; omega))
    have HT3 : Hid (Touch (fun k => k = m ∨ v.ownBlock = some k) w w3) := Lib.hid (((Touch.of_below (S := fun k => k = m ∨ v.ownBlock = some k) hbn).trans ht2 (fun _ _ h => .inl h)).trans ht3 (fun _ _ h => .inr h))
    clear hh hh' hlk hput h hv hbn hn2 ht2 hv2 hv3 ht3 ho3
    go_enter Try.func44, Try.ntmps44
    go_wp2_with (first | (at_lookup; refine wpList_look_run rfl _ _ _ _ rfl rfl rfl lk ?_) | (at_mapUpdate; refine wpList_put_run rfl _ _ _ _ rfl rfl rfl rfl hr2 ?_) | (at_builtin; refine wpList_app_run rfl _ _ _ _ rfl rfl rfl hr3 ?_))
    go_ret
    rw [HP.out]
    exact ⟨v3, L2, clock2, rfl, HN3.out, HV3.out, HO3.out, HT3.out⟩
end Go.Proofs.Ytlbhpeeggbfcpaa
