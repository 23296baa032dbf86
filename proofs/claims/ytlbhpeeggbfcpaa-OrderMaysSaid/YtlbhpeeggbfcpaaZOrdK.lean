/- order: tickets in memory; comparing and sorting them. -/
import Derived.Test.YtlbhpeeggbfcpaaZOrdI
import Derived.Test.YtlbhpeeggbfcpaaZShr
set_option linter.unusedSimpArgs false
set_option linter.unusedVariables false
set_option linter.unnecessarySimpa false
namespace Go.Proofs.Ytlbhpeeggbfcpaa
open Go.RowKit Go.Sort Go.Shelf Go.Lib

def encT (x : Tk) : List Value := [.int .i64 x.g, .int .i64 x.site, .int .i64 x.n]
/-- The cells of tickets. -/
def tkC (T : List Tk) : List Value := T.flatMap encT
theorem tkC_len (T : List Tk) : (tkC T).length = T.length * 3 := by
  induction T with
  | nil => rfl
  | cons x T ih =>
    show (tkC T).length + 1 + 1 + 1 = (T.length + 1) * 3
    omega
theorem tkC_snoc (T : List Tk) (x : Tk) : tkC (T ++ [x]) = tkC T ++ encT x := by simp [tkC]
theorem tkC_at : ∀ {T : List Tk} {i : Nat} {x : Tk}, T[i]? = some x → (tkC T)[i * 3]? = some (.int .i64 x.g) ∧ (tkC T)[i * 3 + 1]? = some (.int .i64 x.site) ∧ (tkC T)[i * 3 + 2]? = some (.int .i64 x.n)
  | y :: T, 0, x, h => by
    have h : y = x := by simpa using h
    subst h
    exact ⟨rfl, rfl, rfl⟩
  | y :: T, i + 1, x, h => by
    have h' : T[i]? = some x := by simpa using h
    obtain ⟨h1, h2, h3⟩ := tkC_at h'
    have e1 : (i + 1) * 3 = i * 3 + 1 + 1 + 1 := by omega
    rw [e1]
    exact ⟨h1, h2, h3⟩
  | [], i, x, h => by simp at h
theorem flat_tk (T : List Tk) : flatK encT 3 T.toArray = (tkC T).toArray := by
  apply Array.ext
  · rw [size_flatK, List.size_toArray, List.size_toArray, tkC_len]
  · intro t h1 h2
    rw [size_flatK, List.size_toArray] at h1
    have hi : t / 3 < T.length := by omega
    have hx : T[t / 3]? = some T[t / 3] := List.getElem?_eq_getElem hi
    obtain ⟨c0, c1, c2⟩ := tkC_at hx
    have e1 := get_flatK encT 3 T.toArray t (by rw [List.size_toArray]; exact h1)
    rw [getElem!_pos (flatK encT 3 T.toArray) t (by rw [size_flatK, List.size_toArray]; exact h1)] at e1
    rw [e1]
    have e2 : T.toArray[t / 3]! = T[t / 3] := by rw [getElem!_pos T.toArray (t / 3) (by simpa using hi)]; simp
    rw [e2, List.getElem_toArray]
    have e3 : t = t / 3 * 3 + t % 3 := by omega
    have h3 : t % 3 = 0 ∨ t % 3 = 1 ∨ t % 3 = 2 := by omega
    have e4 : (tkC T)[t]? = some (tkC T)[t] := List.getElem?_eq_getElem _
    rcases h3 with h | h | h
    · rw [show (tkC T)[t]? = (tkC T)[t / 3 * 3]? from by congr 1; omega, c0] at e4
      rw [h]; exact Option.some.inj e4
    · rw [show (tkC T)[t]? = (tkC T)[t / 3 * 3 + 1]? from by congr 1; omega, c1] at e4
      rw [h]; exact Option.some.inj e4
    · rw [show (tkC T)[t]? = (tkC T)[t / 3 * 3 + 2]? from by congr 1; omega, c2] at e4
      rw [h]; exact Option.some.inj e4
/-- A row of one's own, rewritten as a sort rewrites it. -/
theorem row_laid {w : World} {z g cap n : Nat} {l m : List Value} {os : Array Obj} (h : RowC w z g cap l) (hl : m.length = l.length) : RowC (grow (putRow id (Sort.ahead w n) g 0 m.toArray) os) z g cap m ∧ Touch (fun k => k = g) w (grow (putRow id (Sort.ahead w n) g 0 m.toArray) os) := by
  have hH : Holds id w g 0 l.toArray := fun j hj => by
    have hj' : j < l.length := by simpa using hj
    have h1 : l[j]? = some l[j] := List.getElem?_eq_getElem hj'
    have h2 := h.le
    refine ⟨?_, ?_⟩
    · rw [Nat.zero_add, h.holds j _ h1]
      simp [hj']
    · rw [Nat.zero_add]
      exact (h.there j (by omega)).2
  have h2 := h.le
  have hP : Holds id (putRow id (Sort.ahead w n) g 0 m.toArray) g 0 m.toArray := holds_putRow _ _ _ _ _ _ (holds_ahead _ _ n _ _ _ hH) (by simpa using hl)
  have hR : RowC (putRow id (Sort.ahead w n) g 0 m.toArray) z g cap m := by
    refine ⟨by rw [size_putRow]; exact h.lt, by omega, h.max, fun j b hj => ?_, fun j hj => ?_⟩
    · have hj' : j < m.length := (List.getElem?_eq_some_iff.1 hj).1
      have h3 := (hP j (by simpa using hj')).1
      rw [Nat.zero_add] at h3
      rw [h3]
      have : m.toArray[j]! = b := by
        rw [getElem!_pos m.toArray j (by simpa using hj'), List.getElem_toArray]
        exact (List.getElem?_eq_some_iff.1 hj).2
      rw [this]
      rfl
    · refine ⟨?_, by rw [frozen?_putRow]; exact (h.there j hj).2⟩
      by_cases hjl : j < m.length
      · have h3 := (hP j (by simpa using hjl)).1
        rw [Nat.zero_add] at h3
        rw [h3]
        rfl
      · rw [cell?_putRow_other _ _ _ _ _ _ (.inr (.inr (by simp; omega)))]
        exact (h.there j hj).1
  have hb := touch_grow (putRow id (Sort.ahead w n) g 0 m.toArray) os
  have ht : Touch (fun k => k = g) w (putRow id (Sort.ahead w n) g 0 m.toArray) := ⟨rfl, rfl, rfl, by simp, fun k hk hne => by
    have : g ≠ k := fun e => hne e.symm
    simp [putRow, mapBlock, Sort.ahead, Array.getElem?_modify, this]⟩
  exact ⟨hR.keep hb.size (hb.block g hR.lt), ht.after hb⟩
/-- By sites, then by numbers. -/
def cfT (x y : Tk) : Int := if Lib.compareInt x.site y.site = 0 then Lib.compareInt x.n y.n else Lib.compareInt x.site y.site
theorem ltT_cf (x y : Tk) : ltOf cfT x y = true ↔ ltT x y := by
  unfold ltOf cfT ltT Lib.compareInt
  rw [decide_eq_true_eq]
  by_cases h1 : x.site < y.site
  · simp [h1]
  · by_cases h2 : y.site < x.site
    · have : ¬ x.site = y.site := by omega
      simp [h1, h2, this]
    · have : x.site = y.site := by omega
      by_cases h3 : x.n < y.n
      · simp [this, h3]
      · by_cases h4 : y.n < x.n <;> simp [this, h3, h4]
theorem swoT : SWO (ltOf cfT) where
  irrefl x := by
    rw [Bool.eq_false_iff]; intro h; have := (ltT_cf _ _).1 h; unfold ltT at this; omega
  trans x y z h1 h2 := by
    have h1 := (ltT_cf _ _).1 h1; have h2 := (ltT_cf _ _).1 h2
    refine (ltT_cf _ _).2 ?_
    unfold ltT at *; omega
  ntrans x y z h1 h2 := by
    have h1 : ¬ ltT x y := fun e => by rw [(ltT_cf _ _).2 e] at h1; cases h1
    have h2 : ¬ ltT y z := fun e => by rw [(ltT_cf _ _).2 e] at h2; cases h2
    rw [Bool.eq_false_iff]; intro h; have := (ltT_cf _ _).1 h
    unfold ltT at *; omega
theorem cmpI_any (x y : Int) (W : World) : Calls Try.prog 51 #[.int .i64 x, .int .i64 y] W fun e w' => e = .returned (.int .i64 (Lib.compareInt x y)) ∧ w' = W := AnyG.cmp_Compare_int Try.cmpA x y W
theorem cmpJ_any (x y : Int) (W : World) : Calls Try.prog 52 #[.int .i64 x, .int .i64 y] W fun e w' => e = .returned (.int .i64 (Lib.compareInt x y)) ∧ w' = W := AnyG.cmp_Compare_int Try.cmpB x y W
set_option maxRecDepth 100000 in
set_option maxHeartbeats 2000000 in
theorem or_any {w : World} {g : Nat} {x y : Int} (h : w.heap[g]? = some (.cells #[.int .i64 x, .int .i64 y] 3 (0, 0))) : Calls Try.prog 50 #[.slice (some ⟨g, 0, none⟩) 2 2] w fun e w' => e = .returned (.int .i64 (if x = 0 then y else x)) ∧ w' = w := by
  have c0 := cell_of h 0
  have c1 := cell_of h 1
  go_enter Try.func50, Try.ntmps50
  simp at c0 c1
  go_wp2_with fail
  go_loopw [8] (fun iv wr => ∃ k : Nat, k ≤ 2 ∧ iv = .int .i64 k ∧ wr = w ∧ (1 ≤ k → x = 0) ∧ (2 ≤ k → y = 0)) (fun iv _ => 2 - (intOf iv).toNat)
  case atStart => exact ⟨0, by omega, rfl, rfl, by omega, by omega⟩
  case round =>
    obtain ⟨k, hk, rfl, rfl, hx, hy⟩ := hrel
    have hk3 : k = 0 ∨ k = 1 ∨ k = 2 := by omega
    rcases hk3 with rfl | rfl | rfl
    · clear hx hy hk
      by_cases h0 : x = 0
      · subst h0
        go_wp2_with fail
        go_roundw
        case rel => exact ⟨1, by omega, by go_num, by first | rfl | trivial, by first | trivial | (intro _; rfl) | simp, by first | trivial | omega | simp⟩
        case measure => simp [intOf]
      · have hb : (x == 0) = false := by rw [beq_eq_false_iff_ne]; exact h0
        go_wp2_with fail
        go_ret
        first | (rw [if_neg h0]; exact ⟨rfl, rfl⟩) | (simp [h0])
    · obtain rfl := hx (by omega)
      clear hx hy hk
      by_cases h0 : y = 0
      · subst h0
        go_wp2_with fail
        go_roundw
        case rel => exact ⟨2, by omega, by go_num, by first | rfl | trivial, by first | trivial | (intro _; rfl) | simp, by first | trivial | (intro _; rfl) | simp⟩
        case measure => simp [intOf]
      · have hb : (y == 0) = false := by rw [beq_eq_false_iff_ne]; exact h0
        go_wp2_with fail
        go_ret
        first | (rw [if_pos rfl]; exact ⟨rfl, rfl⟩) | simp
    · obtain rfl := hx (by omega)
      obtain rfl := hy (by omega)
      clear hx hy hk
      go_wp2_with fail
      go_ret
      first | (rw [if_pos rfl]; exact ⟨rfl, rfl⟩) | simp
set_option maxRecDepth 100000 in
set_option maxHeartbeats 2000000 in
theorem cmpT_any (x y : Tk) (W : World) : Calls Try.prog 49 #[.agg #[.int .i64 x.g, .int .i64 x.site, .int .i64 x.n], .agg #[.int .i64 y.g, .int .i64 y.site, .int .i64 y.n]] W fun e w' => e = .returned (.int .i64 (cfT x y)) ∧ ∃ q os', w' = grow (W.drewN q) os' := by
  have HI := Lib.hid (fun W' => cmpI_any x.site y.site W')
  have HJ := Lib.hid (fun W' => cmpJ_any x.n y.n W')
  have HC : Hid (cfT x y = if Lib.compareInt x.site y.site = 0 then Lib.compareInt x.n y.n else Lib.compareInt x.site y.site) := Lib.hid rfl
  generalize Lib.compareInt x.site y.site = c1 at HI HC
  generalize Lib.compareInt x.n y.n = c2 at HJ HC
  go_enter Try.func49, Try.ntmps49
  go_wp2_with fail
  have hs1 : ((W.alloc (.cells #[.int .i64 x.g, .int .i64 x.site, .int .i64 x.n] 59)).alloc (.cells #[.int .i64 y.g, .int .i64 y.site, .int .i64 y.n] 59)).heap.size = W.heap.size + 2 := by rw [asz, asz]
  have ha := alloc_at W (.cells #[.int .i64 x.g, .int .i64 x.site, .int .i64 x.n] 59)
  have hb := alloc_at (W.alloc (.cells #[.int .i64 x.g, .int .i64 x.site, .int .i64 x.n] 59)) (.cells #[.int .i64 y.g, .int .i64 y.site, .int .i64 y.n] 59)
  rw [asz] at hb
  have ha' := ((below_new (w := W.alloc (.cells #[.int .i64 x.g, .int .i64 x.site, .int .i64 x.n] 59)) (.cells #[.int .i64 y.g, .int .i64 y.site, .int .i64 y.n] 59)).block W.heap.size (by rw [asz]; omega)).trans ha
  have HE : Hid ((W.alloc (.cells #[.int .i64 x.g, .int .i64 x.site, .int .i64 x.n] 59)).alloc (.cells #[.int .i64 y.g, .int .i64 y.site, .int .i64 y.n] 59) = grow W #[.cells #[.int .i64 x.g, .int .i64 x.site, .int .i64 x.n] 59, .cells #[.int .i64 y.g, .int .i64 y.site, .int .i64 y.n] 59]) := Lib.hid (by rw [alloc_eq_grow, alloc_eq_grow, grow_grow]; rfl)
  generalize hWA : (W.alloc (.cells #[.int .i64 x.g, .int .i64 x.site, .int .i64 x.n] 59)).alloc (.cells #[.int .i64 y.g, .int .i64 y.site, .int .i64 y.n] 59) = WA at *
  clear hWA ha
  have d1 : WA.drew.cell? ⟨W.heap.size, 1, none⟩ = some (.int .i64 x.site) := cell_of ha' 1
  have d2 : WA.drew.cell? ⟨W.heap.size, 2, none⟩ = some (.int .i64 x.n) := cell_of ha' 2
  have e1 : WA.drew.cell? ⟨W.heap.size + 1, 1, none⟩ = some (.int .i64 y.site) := cell_of hb 1
  have e2 : WA.drew.cell? ⟨W.heap.size + 1, 2, none⟩ = some (.int .i64 y.n) := cell_of hb 2
  have hS0 : WA.drew.cell? ⟨W.heap.size, 1, none⟩ = some (.int .i64 x.site) ∧ WA.drew.cell? ⟨W.heap.size, 2, none⟩ = some (.int .i64 x.n) ∧ WA.drew.cell? ⟨W.heap.size + 1, 1, none⟩ = some (.int .i64 y.site) ∧ WA.drew.cell? ⟨W.heap.size + 1, 2, none⟩ = some (.int .i64 y.n) := ⟨d1, d2, e1, e2⟩
  have hbl := below_new (w := WA.drew) (.cells #[.int .i64 c1, .int .i64 c2] 3)
  have hszd : WA.drew.heap.size = W.heap.size + 2 := hs1
  have hS1 : (WA.drew.alloc (.cells #[.int .i64 c1, .int .i64 c2] 3)).cell? ⟨W.heap.size, 1, none⟩ = some (.int .i64 x.site) ∧ (WA.drew.alloc (.cells #[.int .i64 c1, .int .i64 c2] 3)).cell? ⟨W.heap.size, 2, none⟩ = some (.int .i64 x.n) ∧ (WA.drew.alloc (.cells #[.int .i64 c1, .int .i64 c2] 3)).cell? ⟨W.heap.size + 1, 1, none⟩ = some (.int .i64 y.site) ∧ (WA.drew.alloc (.cells #[.int .i64 c1, .int .i64 c2] 3)).cell? ⟨W.heap.size + 1, 2, none⟩ = some (.int .i64 y.n) :=
    ⟨(hbl.cell (p := ⟨W.heap.size, 1, none⟩) (show W.heap.size < WA.drew.heap.size by omega)).trans d1, (hbl.cell (p := ⟨W.heap.size, 2, none⟩) (show W.heap.size < WA.drew.heap.size by omega)).trans d2, (hbl.cell (p := ⟨W.heap.size + 1, 1, none⟩) (show W.heap.size + 1 < WA.drew.heap.size by omega)).trans e1, (hbl.cell (p := ⟨W.heap.size + 1, 2, none⟩) (show W.heap.size + 1 < WA.drew.heap.size by omega)).trans e2⟩
  have HOR := Lib.hid (or_any (alloc_at WA.drew (.cells #[.int .i64 c1, .int .i64 c2] 3)))
  clear d1 d2 e1 e2 hbl hszd ha' hb hs1
  obtain ⟨r, hr⟩ : ∃ r, r = if c1 = 0 then c2 else c1 := ⟨_, rfl⟩
  rw [← hr] at HOR HC
  clear hr
  refine wp_region_held_drew (S := fun V => V.cell? ⟨W.heap.size, 1, none⟩ = some (.int .i64 x.site) ∧ V.cell? ⟨W.heap.size, 2, none⟩ = some (.int .i64 x.n) ∧ V.cell? ⟨W.heap.size + 1, 1, none⟩ = some (.int .i64 y.site) ∧ V.cell? ⟨W.heap.size + 1, 2, none⟩ = some (.int .i64 y.n)) (by kernel_rfl) hS0 (fun hHeld => ?_)
  refine wpAnyH_take (i := 0) (oi := { dst := some 5, op := Op.fieldAddr 59 (Operand.tmp 2) 1, type := 0, pos := "ticket.go:53", after := #[], guard := none }) (v := ?vv1) rfl (by kernel_rfl) (by kernel_rfl) (by kernel_rfl) (fun _ _ _ h => h) ?hy1 (by assumption) ?rest1
  case hy1 => (refine Or.inl ⟨by rfl, ?_⟩; intro W hSw; (try dsimp only at hSw); go_simp; (try with_reducible rfl))
  try simp only [Act.put, List.setIfInBounds_toArray, List.set_cons_zero, List.set_cons_succ]
  refine wpAnyH_take (i := 1) (oi := { dst := some 6, op := Op.load 3 (Operand.tmp 5), type := 3, pos := "ticket.go:53", after := #[{ on := 0, ground := Ground.data }], guard := none }) (v := ?vv2) rfl (by kernel_rfl) (by kernel_rfl) (by kernel_rfl) (fun _ _ _ h => h) ?hy2 (by assumption) ?rest2
  case hy2 => (refine Or.inl ⟨by rfl, ?_⟩; intro W hSw; (try dsimp only at hSw); go_simp; (try with_reducible rfl))
  try simp only [Act.put, List.setIfInBounds_toArray, List.set_cons_zero, List.set_cons_succ]
  refine wpAnyH_take (i := 2) (oi := { dst := some 7, op := Op.fieldAddr 59 (Operand.tmp 3) 1, type := 0, pos := "ticket.go:53", after := #[], guard := none }) (v := ?vv3) rfl (by kernel_rfl) (by kernel_rfl) (by kernel_rfl) (fun _ _ _ h => h) ?hy3 (by assumption) ?rest3
  case hy3 => (refine Or.inl ⟨by rfl, ?_⟩; intro W hSw; (try dsimp only at hSw); go_simp; (try with_reducible rfl))
  try simp only [Act.put, List.setIfInBounds_toArray, List.set_cons_zero, List.set_cons_succ]
  refine wpAnyH_take (i := 3) (oi := { dst := some 8, op := Op.load 3 (Operand.tmp 7), type := 3, pos := "ticket.go:53", after := #[{ on := 2, ground := Ground.data }], guard := none }) (v := ?vv4) rfl (by kernel_rfl) (by kernel_rfl) (by kernel_rfl) (fun _ _ _ h => h) ?hy4 (by assumption) ?rest4
  case hy4 => (refine Or.inl ⟨by rfl, ?_⟩; intro W hSw; (try dsimp only at hSw); go_simp; (try with_reducible rfl))
  try simp only [Act.put, List.setIfInBounds_toArray, List.set_cons_zero, List.set_cons_succ]
  refine wpAnyH_take (i := 5) (oi := { dst := some 10, op := Op.fieldAddr 59 (Operand.tmp 2) 2, type := 0, pos := "ticket.go:53", after := #[], guard := none }) (v := ?vv5) rfl (by kernel_rfl) (by kernel_rfl) (by kernel_rfl) (fun _ _ _ h => h) ?hy5 (by assumption) ?rest5
  case hy5 => (refine Or.inl ⟨by rfl, ?_⟩; intro W hSw; (try dsimp only at hSw); go_simp; (try with_reducible rfl))
  try simp only [Act.put, List.setIfInBounds_toArray, List.set_cons_zero, List.set_cons_succ]
  refine wpAnyH_take (i := 6) (oi := { dst := some 11, op := Op.load 2 (Operand.tmp 10), type := 2, pos := "ticket.go:53", after := #[{ on := 5, ground := Ground.data }], guard := none }) (v := ?vv6) rfl (by kernel_rfl) (by kernel_rfl) (by kernel_rfl) (fun _ _ _ h => h) ?hy6 (by assumption) ?rest6
  case hy6 => (refine Or.inl ⟨by rfl, ?_⟩; intro W hSw; (try dsimp only at hSw); go_simp; (try with_reducible rfl))
  try simp only [Act.put, List.setIfInBounds_toArray, List.set_cons_zero, List.set_cons_succ]
  refine wpAnyH_take (i := 7) (oi := { dst := some 12, op := Op.fieldAddr 59 (Operand.tmp 3) 2, type := 0, pos := "ticket.go:53", after := #[], guard := none }) (v := ?vv7) rfl (by kernel_rfl) (by kernel_rfl) (by kernel_rfl) (fun _ _ _ h => h) ?hy7 (by assumption) ?rest7
  case hy7 => (refine Or.inl ⟨by rfl, ?_⟩; intro W hSw; (try dsimp only at hSw); go_simp; (try with_reducible rfl))
  try simp only [Act.put, List.setIfInBounds_toArray, List.set_cons_zero, List.set_cons_succ]
  refine wpAnyH_take (i := 8) (oi := { dst := some 13, op := Op.load 2 (Operand.tmp 12), type := 2, pos := "ticket.go:53", after := #[{ on := 7, ground := Ground.data }], guard := none }) (v := ?vv8) rfl (by kernel_rfl) (by kernel_rfl) (by kernel_rfl) (fun _ _ _ h => h) ?hy8 (by assumption) ?rest8
  case hy8 => (refine Or.inl ⟨by rfl, ?_⟩; intro W hSw; (try dsimp only at hSw); go_simp; (try with_reducible rfl))
  try simp only [Act.put, List.setIfInBounds_toArray, List.set_cons_zero, List.set_cons_succ]
  refine wpAnyH_ready (rs := [4]) (by kernel_rfl) (by simp) ?_
  refine AllReadyH.cons (o := { dst := some 9, op := Op.call { callee := Callee.value (Operand.func 51), args := #[Operand.tmp 6, Operand.tmp 8], argTypes := #[3, 3] }, type := 3, pos := "ticket.go:53", after := #[{ on := 1, ground := Ground.data }, { on := 3, ground := Ground.data }], guard := none }) rfl (fun K hK => ?step9) ?more9
  case more9 => exact AllReadyH.nil
  ((go_simp; go_at_call 51; refine (HI.out _).mono ?_; rintro e w4 ⟨rfl, rfl⟩; go_wp2_with fail))
  refine hK.out _ _ ?hS9 (fun hHeld => ?rr9)
  case hS9 => (exact hS0)
  clear hK K
  try simp only [Act.put, List.setIfInBounds_toArray, List.set_cons_zero, List.set_cons_succ]
  refine wpAnyH_ready (rs := [9]) (by kernel_rfl) (by simp) ?_
  refine AllReadyH.cons (o := { dst := some 14, op := Op.call { callee := Callee.value (Operand.func 52), args := #[Operand.tmp 11, Operand.tmp 13], argTypes := #[2, 2] }, type := 3, pos := "ticket.go:53", after := #[{ on := 6, ground := Ground.data }, { on := 8, ground := Ground.data }, { on := 4, ground := Ground.chain }], guard := none }) rfl (fun K hK => ?step10) ?more10
  case more10 => exact AllReadyH.nil
  ((go_simp; go_at_call 52; refine (HJ.out _).mono ?_; rintro e w4 ⟨rfl, rfl⟩; go_wp2_with fail))
  refine hK.out _ _ ?hS10 (fun hHeld => ?rr10)
  case hS10 => (exact hS0)
  clear hK K
  try simp only [Act.put, List.setIfInBounds_toArray, List.set_cons_zero, List.set_cons_succ]
  refine wpAnyH_ready (rs := [10]) (by kernel_rfl) (by simp) ?_
  refine AllReadyH.cons (o := { dst := some 15, op := Op.buildSlice 30 2 #[(0, Operand.tmp 9), (1, Operand.tmp 14)], type := 30, pos := "ticket.go:53", after := #[{ on := 4, ground := Ground.data }, { on := 9, ground := Ground.data }], guard := none }) rfl (fun K hK => ?step11) ?more11
  case more11 => exact AllReadyH.nil
  (go_simp)
  refine hK.out _ _ ?hS11 (fun hHeld => ?rr11)
  case hS11 => (exact hS1)
  clear hK K
  try simp only [Act.put, List.setIfInBounds_toArray, List.set_cons_zero, List.set_cons_succ]
  refine wpAnyH_ready (rs := [11]) (by kernel_rfl) (by simp) ?_
  refine AllReadyH.cons (o := { dst := some 16, op := Op.call { callee := Callee.value (Operand.func 50), args := #[Operand.tmp 15], argTypes := #[30] }, type := 3, pos := "ticket.go:53", after := #[{ on := 10, ground := Ground.data }, { on := 9, ground := Ground.chain }], guard := none }) rfl (fun K hK => ?step12) ?more12
  case more12 => exact AllReadyH.nil
  ((go_simp; go_at_call 50; refine (HOR.out).mono ?_; rintro e w4 ⟨rfl, rfl⟩; go_wp2_with fail))
  refine hK.out _ _ ?hS12 (fun hHeld => ?rr12)
  case hS12 => (exact hS1)
  clear hK K
  try simp only [Act.put, List.setIfInBounds_toArray, List.set_cons_zero, List.set_cons_succ]
  refine wpAnyH_ready (rs := [12]) (by kernel_rfl) (by simp) ?_
  refine AllReadyH.cons (o := { dst := some 4, op := Op.assign (Operand.tmp 16), type := 3, pos := "ticket.go:53", after := #[{ on := 11, ground := Ground.data }, { on := 11, ground := Ground.chain }, { on := 0, ground := Ground.phase }, { on := 1, ground := Ground.phase }, { on := 2, ground := Ground.phase }, { on := 3, ground := Ground.phase }, { on := 4, ground := Ground.phase }, { on := 5, ground := Ground.phase }, { on := 6, ground := Ground.phase }, { on := 7, ground := Ground.phase }, { on := 8, ground := Ground.phase }, { on := 9, ground := Ground.phase }, { on := 10, ground := Ground.phase }, { on := 11, ground := Ground.phase }], guard := none }) rfl (fun K hK => ?step13) ?more13
  case more13 => exact AllReadyH.nil
  (go_simp)
  refine hK.out _ _ ?hS13 (fun hHeld => ?rr13)
  case hS13 => (exact hS1)
  clear hK K
  try simp only [Act.put, List.setIfInBounds_toArray, List.set_cons_zero, List.set_cons_succ]
  refine wpAnyH_done (by kernel_rfl) ?_ _
  clear hHeld
  go_wp2_with fail
  go_ret
  refine ⟨by first | (rw [HC.out]; done) | (rw [HC.out]; rfl) | exact HC.out.symm | (simp [HC.out]; done), 1, #[.cells #[.int .i64 x.g, .int .i64 x.site, .int .i64 x.n] 59, .cells #[.int .i64 y.g, .int .i64 y.site, .int .i64 y.n] 59] ++ #[.cells #[.int .i64 c1, .int .i64 c2] 3], ?_⟩
  rw [HE.out, ← grow_grow]
  rfl
theorem cmpT_lays (blk off size : Nat) (w : World) : CmpLays Try.prog 49 #[] encT 3 cfT blk off size w := fun _ _ _ _ x y => cmpT_any x y _
end Go.Proofs.Ytlbhpeeggbfcpaa
