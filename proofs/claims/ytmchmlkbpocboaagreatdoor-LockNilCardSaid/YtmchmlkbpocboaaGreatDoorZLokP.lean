/- lock: tables in memory: lanes by key, what each one waits for; each block has its role. -/
import Derived.Test.YtmchmlkbpocboaaGreatDoorZLokO
import Derived.Test.YtmchmlkbpocboaaGreatDoorZLpD
set_option linter.unusedSimpArgs false
set_option linter.unusedVariables false
set_option linter.unnecessarySimpa false
namespace Go.Proofs.YtmchmlkbpocboaaGreatDoor
open Go.RowKit
open Go.Maps (Keyed)

def strV (k : KeyT) : Value := .string ⟨k.toArray⟩
theorem strV_inj {a b : KeyT} (h : strV a = strV b) : a = b := by
  unfold strV at h
  injection h with h
  have := congrArg (fun x : ByteArray => x.data.toList) h
  simpa using this
theorem keyS {k : KeyT} (h : k.length ≤ 1000) : keyOf Tryz.prog 9 (strV k) = some (.string k) := by
  have h1 : k.length ≤ maxLen := by unfold maxLen; omega
  simp [keyOf, Tryz.underlying9, mapKey, strV, ByteArray.size, h1]
/-- A lane: its key, and where it lies. -/
structure Le where
  key : KeyT
  b : Nat
  gh : Nat
  rv : Value
  l : Ln
def Le.ptr (e : Le) : Value := .pointer (some ⟨e.b, 0, none⟩)
abbrev Wt := Int × (KeyT × Bool)
def holdV (h : KeyT × Bool) : Value := .agg #[strV h.1, .bool h.2]
/-- A table in memory. -/
structure TbAt (W : World) (tb gl gw : Nat) (L : List Le) (WT : List Wt) (ro : Nat → Nat) : Prop where
  head : W.heap[tb]? = some (.cells #[.map (some gl), .map (some gw)] 64 (0, 0))
  lanes : ∃ M c, MapIs Tryz.prog 9 W gl M c ∧ M.map (fun e => (e.key, e.val)) = L.map (fun e => (strV e.key, e.ptr))
  waits : ∃ M c, MapIs Tryz.prog 3 W gw M c ∧ M.map (fun e => (e.key, e.val)) = WT.map (fun x => (Value.int .i64 x.1, holdV x.2))
  ln : ∀ e ∈ L, LnAt W e.b e.gh e.rv e.l
  keys : ∀ e ∈ L, e.key.length ≤ 1000
  inW : ∀ x ∈ WT, InR64 x.1
  rt : ro tb = 1
  rl : ro gl = 2
  rw : ro gw = 3
  rn : ∀ e ∈ L, ro e.b = 4 ∧ ro e.gh = 5 ∧ ∀ k, e.rv.ownBlock = some k → ro k = 6
  lt : ∀ k, ro k ≠ 0 → k < W.heap.size
  oneb : ∀ (i j : Nat) (x y : Le), L[i]? = some x → L[j]? = some y → x.b = y.b → i = j
  oneg : ∀ (i j : Nat) (x y : Le), L[i]? = some x → L[j]? = some y → x.gh = y.gh → i = j
  oner : ∀ (i j : Nat) (x y : Le) (k : Nat), L[i]? = some x → L[j]? = some y → x.rv.ownBlock = some k → y.rv.ownBlock = some k → i = j
/-- The same, in plain words. -/
def tbOf (L : List Le) (WT : List Wt) : Tb := ⟨L.map (fun e => (e.key, e.l)), WT⟩
section
variable {W W' : World} {tb gl gw : Nat} {L : List Le} {WT : List Wt} {ro : Nat → Nat}
theorem TbAt.keep (h : TbAt W tb gl gw L WT ro) {S : Nat → Prop} (ht : Touch S W W') (hS : ∀ k, S k → ro k = 0) : TbAt W' tb gl gw L WT ro where
  head := (ht.block tb (heap_lt h.head) (fun e => by have := hS tb e; have := h.rt; omega)).trans h.head
  lanes := by
    obtain ⟨M, c, h1, h2⟩ := h.lanes
    exact ⟨M, c, h1.keep (ht.block gl h1.lt (fun e => by have := hS gl e; have := h.rl; omega)), h2⟩
  waits := by
    obtain ⟨M, c, h1, h2⟩ := h.waits
    exact ⟨M, c, h1.keep (ht.block gw h1.lt (fun e => by have := hS gw e; have := h.rw; omega)), h2⟩
  ln := fun e he => by
    have hl := h.ln e he
    have hr := h.rn e he
    exact hl.keep ht.size (ht.block _ (heap_lt hl.head) (fun q => by have := hS _ q; have := hr.1; omega)) (ht.block _ hl.held.lt (fun q => by have := hS _ q; have := hr.2.1; omega)) (fun g hg => ht.block _ (hl.row.lt g hg) (fun q => by have := hS _ q; have := hr.2.2 g hg; omega))
  keys := h.keys
  inW := h.inW
  rt := h.rt
  rl := h.rl
  rw := h.rw
  rn := h.rn
  lt := fun k hk => Nat.lt_of_lt_of_le (h.lt k hk) ht.size
  oneb := h.oneb
  oneg := h.oneg
  oner := h.oner
theorem TbAt.below (h : TbAt W tb gl gw L WT ro) (hb : Below W.heap.size W W') : TbAt W' tb gl gw L WT ro :=
  h.keep (S := fun _ => False) (.of_below hb) (fun _ h => h.elim)
end
/-- What a call of a table leaves: it turns what is the table's alone; what it makes anew has roles of its own. -/
structure TStep (W W' : World) (ro ro' : Nat → Nat) : Prop where
  touch : Touch (fun k => ro k ≠ 0) W W'
  old : ∀ k, k < W.heap.size → ro' k = ro k
theorem TStep.refl (W : World) (ro : Nat → Nat) : TStep W W ro ro := ⟨Touch.refl _ _, fun _ _ => rfl⟩
theorem TStep.trans {A B C : World} {r1 r2 r3 : Nat → Nat} (h : TStep A B r1 r2) (k : TStep B C r2 r3) : TStep A C r1 r3 :=
  ⟨h.touch.trans k.touch (fun i hi hk => by rw [h.old i hi] at hk; exact hk), fun i hi => (k.old i (Nat.lt_of_lt_of_le hi h.touch.size)).trans (h.old i hi)⟩
theorem TStep.below {A B C : World} {r1 r2 : Nat → Nat} (h : TStep A B r1 r2) (hb : Below B.heap.size B C) : TStep A C r1 r2 := ⟨h.touch.after hb, h.old⟩
theorem TStep.ahead {A B C : World} {r1 r2 : Nat → Nat} (hb : Below A.heap.size A B) (h : TStep B C r1 r2) : TStep A C r1 r2 := ⟨Touch.ahead hb h.touch, fun k hk => h.old k (Nat.lt_of_lt_of_le hk hb.size)⟩
/-! looking up -/
theorem pair_at {M : List MapEntry} {α : Type} {L : List α} {f : α → Value × Value} (h : M.map (fun e => (e.key, e.val)) = L.map f) {j : Nat} {x : α} (hj : L[j]? = some x) : ∃ e, M[j]? = some e ∧ e.key = (f x).1 ∧ e.val = (f x).2 := by
  have h1 : (M.map (fun e => (e.key, e.val)))[j]? = some (f x) := by rw [h, List.getElem?_map, hj]; rfl
  rw [List.getElem?_map] at h1
  cases he : M[j]? with
  | none => rw [he] at h1; cases h1
  | some e =>
    rw [he] at h1
    have : (e.key, e.val) = f x := by simpa using h1
    exact ⟨e, rfl, by rw [← this], by rw [← this]⟩
theorem pair_mem {M : List MapEntry} {α : Type} {L : List α} {f : α → Value × Value} (h : M.map (fun e => (e.key, e.val)) = L.map f) {e : MapEntry} (he : e ∈ M) : ∃ x ∈ L, e.key = (f x).1 ∧ e.val = (f x).2 := by
  have h1 : (e.key, e.val) ∈ M.map (fun e => (e.key, e.val)) := List.mem_map.2 ⟨e, he, rfl⟩
  rw [h] at h1
  obtain ⟨x, hx, e1⟩ := List.mem_map.1 h1
  exact ⟨x, hx, by rw [e1], by rw [e1]⟩
theorem laneP_tb {L : List Le} {WT : List Wt} {k : KeyT} : laneP (tbOf L WT) k = (L.find? (fun e => e.key == k)).map (·.l) := by
  unfold laneP tbOf
  rw [find_map (fun e : Le => (e.key, e.l)) (fun e : Le => e.key == k) (fun e : KeyT × Ln => e.1 == k) (fun e => rfl), Option.map_map]
  rfl
theorem nilPtr_zero (W : World) : (zeroValue 71).run Tryz.prog W = .ok (.pointer none) W := by kernel_rfl
/-- A key's lane is looked up. -/
theorem lanes_look {W : World} {gl : Nat} {M : List MapEntry} {c : Nat} {L : List Le} (h : MapIs Tryz.prog 9 W gl M c) (hm : M.map (fun e => (e.key, e.val)) = L.map (fun e => (strV e.key, e.ptr))) {k : KeyT} (hk : k.length ≤ 1000) :
    (Instr.lookup 61 (.map (some gl)) (strV k) false).run Tryz.prog W = .ok (match L.find? (fun e => e.key == k) with | some e => e.ptr | none => .pointer none) W := by
  cases hf : L.find? (fun e => e.key == k) with
  | some e =>
    have h1 := List.find?_some hf
    rw [beq_iff_eq] at h1
    obtain ⟨j, hj⟩ := List.getElem?_of_mem (List.mem_of_find?_eq_some hf)
    obtain ⟨m, hm1, hm2, hm3⟩ := pair_at hm hj
    have := h.look_hit keyedS Tryz.underlying61 (keyS hk) hm1 (by rw [hm2, h1]) false
    rw [this, hm3]; rfl
  | none =>
    rw [List.find?_eq_none] at hf
    exact h.look_miss keyedS Tryz.underlying61 (nilPtr_zero W) (keyS hk) (fun m hm' e => by
      obtain ⟨x, hx, h1, _⟩ := pair_mem hm hm'
      rw [h1] at e
      exact hf x hx (by simpa using strV_inj e)) false
def emptyV : Value := .agg #[.string ⟨#[]⟩, .bool false]
theorem hold_zero (W : World) : (zeroValue 43).run Tryz.prog W = .ok emptyV W := by kernel_rfl
/-- What one waits for is looked up. -/
theorem waits_look {W : World} {gw : Nat} {M : List MapEntry} {c : Nat} {WT : List Wt} (h : MapIs Tryz.prog 3 W gw M c) (hm : M.map (fun e => (e.key, e.val)) = WT.map (fun x => (Value.int .i64 x.1, holdV x.2))) (L : List Le) {who : Int} (hw : InR64 who) :
    (Instr.lookup 62 (.map (some gw)) (.int .i64 who) true).run Tryz.prog W = .ok (match waitP (tbOf L WT) who with | some v => .tuple #[holdV v, .bool true] | none => .tuple #[emptyV, .bool false]) W := by
  unfold waitP tbOf
  show _ = Result.ok (match (WT.find? (fun e => e.1 == who)).map (·.2) with | some v => _ | none => _) W
  cases hf : WT.find? (fun e => e.1 == who) with
  | some e =>
    have h1 := List.find?_some hf
    rw [beq_iff_eq] at h1
    obtain ⟨j, hj⟩ := List.getElem?_of_mem (List.mem_of_find?_eq_some hf)
    obtain ⟨m, hm1, hm2, hm3⟩ := pair_at hm hj
    have := h.look_hit keyedI Tryz.underlying62 (keyI hw) hm1 (by rw [hm2, h1]) true
    rw [this, hm3]; rfl
  | none =>
    rw [List.find?_eq_none] at hf
    exact h.look_miss keyedI Tryz.underlying62 (hold_zero W) (keyI hw) (fun m hm' e => by
      obtain ⟨x, hx, h1, _⟩ := pair_mem hm hm'
      rw [h1] at e
      injection e with _ e
      exact hf x hx (by simpa using e)) true
end Go.Proofs.YtmchmlkbpocboaaGreatDoor
