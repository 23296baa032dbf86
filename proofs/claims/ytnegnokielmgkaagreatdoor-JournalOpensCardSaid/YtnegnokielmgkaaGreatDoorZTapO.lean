/- The tape: what a loss of power leaves. The tape: Crash. -/
import Derived.Test.YtnegnokielmgkaaGreatDoorZTapN
import Derived.Test.YtnegnokielmgkaaGreatDoorZTapS
set_option linter.unusedSimpArgs false
set_option linter.unusedVariables false
set_option linter.unnecessarySimpa false
namespace Go.Proofs.YtnegnokielmgkaaGreatDoor
open Go.RowKit

def keptE (e : Ent) (k : Int) : List (Int × List UInt8 × Nat) :=
  if (e.b.take (lastN e.b e.s k)).length = 0 then [] else [(e.n, e.b.take (lastN e.b e.s k), (e.b.take (lastN e.b e.s k)).length)]
def kept (L : List Ent) (n k : Int) : List (Int × List UInt8 × Nat) :=
  match L.find? (fun e => e.n == n) with
  | some e => keptE e k
  | none => []
/-- What lasts of the first i segments. -/
def crA (L : List Ent) (ns ks : List Int) (i : Nat) : List (Int × List UInt8 × Nat) := (List.range i).flatMap fun j => kept L (ns[j]?.getD 0) (ks[j]?.getD 0)
theorem crA_zero (L : List Ent) (ns ks : List Int) : crA L ns ks 0 = [] := rfl
theorem crA_succ (L : List Ent) (ns ks : List Int) (i : Nat) : crA L ns ks (i + 1) = crA L ns ks i ++ kept L (ns[i]?.getD 0) (ks[i]?.getD 0) := by
  unfold crA
  rw [List.range_succ, List.flatMap_append]
  simp
theorem kept_at {L : List Ent} {j : Nat} {e : Ent} (hj : L[j]? = some e) (hone : ∀ (i i' : Nat) (a b : Ent), L[i]? = some a → L[i']? = some b → a.n = b.n → i = i') (k : Int) : kept L e.n k = keptE e k := by
  unfold kept
  cases h : L.find? (fun e' => e'.n == e.n) with
  | none => exact absurd (List.find?_eq_none.1 h e (List.mem_of_getElem? hj)) (by simp)
  | some x =>
    obtain ⟨i, hi⟩ := List.getElem?_of_mem (List.mem_of_find?_eq_some h)
    have hx : x.n = e.n := by simpa using List.find?_some h
    have := hone i j x e hi hj hx
    subst this
    rw [hi] at hj
    obtain rfl := Option.some.inj hj
    rfl
theorem kept_name {L : List Ent} {n k : Int} : ∀ x ∈ kept L n k, x.1 = n := by
  intro x hx
  unfold kept at hx
  cases h : L.find? (fun e' => e'.n == n) with
  | none => rw [h] at hx; cases hx
  | some y =>
    rw [h] at hx
    have hy : y.n = n := by simpa using List.find?_some h
    simp only [keptE] at hx
    split at hx
    · cases hx
    · obtain rfl := List.mem_singleton.1 hx
      exact hy
/-- How long a segment of that number is. -/
def lenOf (L : List Ent) (n : Int) : Nat := ((L.find? (fun e => e.n == n)).map fun e => e.b.length).getD 0
def sumA (A : List (Int × List UInt8 × Nat)) : Nat := (A.map fun x => x.2.1.length).sum
theorem sumA_abs (L : List Ent) : sumA (abs L) = used L := by
  unfold sumA abs used
  rw [List.map_map]
  rfl
theorem kept_len (L : List Ent) (n k : Int) : sumA (kept L n k) ≤ lenOf L n := by
  unfold kept lenOf
  cases h : L.find? (fun e' => e'.n == n) with
  | none => simp [sumA]
  | some y =>
    simp only [keptE]
    split
    · simp [sumA]
    · simp [sumA]; omega
theorem kept_one (L : List Ent) (n k : Int) : (kept L n k).length ≤ 1 := by
  unfold kept
  cases h : L.find? (fun e' => e'.n == n) with
  | none => simp
  | some y => simp only [keptE]; split <;> simp
theorem crA_len (L : List Ent) (ns ks : List Int) (i : Nat) : (crA L ns ks i).length ≤ i := by
  induction i with
  | zero => simp [crA_zero]
  | succ i ih => rw [crA_succ, List.length_append]; have := kept_one L (ns[i]?.getD 0) (ks[i]?.getD 0); omega
theorem crA_sum (L : List Ent) (ns ks : List Int) : ∀ i, i ≤ ns.length → sumA (crA L ns ks i) ≤ ((ns.take i).map (lenOf L)).sum := by
  intro i
  induction i with
  | zero => intro _; simp [crA_zero, sumA]
  | succ i ih =>
    intro hi
    have h1 := ih (by omega)
    have h2 := kept_len L (ns[i]?.getD 0) (ks[i]?.getD 0)
    have h3 : ns.take (i + 1) = ns.take i ++ [ns[i]] := by rw [List.take_add_one, List.getElem?_eq_getElem (by omega)]; rfl
    rw [crA_succ, h3]
    rw [List.getElem?_eq_getElem (show i < ns.length by omega), Option.getD_some] at h2 ⊢
    unfold sumA at *
    simp only [List.map_append, List.sum_append, List.map_cons, List.map_nil, List.sum_cons, List.sum_nil] at *
    omega
theorem sum_sub (l : List Int) (f : Int → Nat) (i : Nat) : ((l.take i).map f).sum ≤ (l.map f).sum := by
  have := congrArg (fun l => (l.map f).sum) (List.take_append_drop i l)
  simp only [List.map_append, List.sum_append] at this
  omega
theorem lenOf_sum {L : List Ent} (hone : ∀ (i i' : Nat) (a b : Ent), L[i]? = some a → L[i']? = some b → a.n = b.n → i = i') : ((L.map (·.n)).map (lenOf L)).sum = used L := by
  unfold used
  rw [List.map_map]
  congr 1
  refine List.map_congr_left fun e he => ?_
  show lenOf L e.n = e.b.length
  obtain ⟨j, hj⟩ := List.getElem?_of_mem he
  unfold lenOf
  cases h : L.find? (fun e' => e'.n == e.n) with
  | none => exact absurd (List.find?_eq_none.1 h e he) (by simp)
  | some x =>
    obtain ⟨i, hi⟩ := List.getElem?_of_mem (List.mem_of_find?_eq_some h)
    have hx : x.n = e.n := by simpa using List.find?_some h
    have := hone i j x e hi hj hx
    subst this
    rw [hi] at hj
    obtain rfl := Option.some.inj hj
    rfl
theorem TapeAt.apart {w : World} {t : Nat} {T : Tp} (h : TapeAt w t T) : ∀ (i i' : Nat) (a b : Ent), T.L[i]? = some a → T.L[i']? = some b → a.n = b.n → i = i' := fun i i' a b ha hb hn => h.one ha hb hn
theorem TapeAt.nodup {w : World} {t : Nat} {T : Tp} (h : TapeAt w t T) : (T.L.map (·.n)).Nodup := by
  unfold List.Nodup
  rw [List.pairwise_iff_getElem]
  intro i j hi hj hij he
  rw [List.getElem_map, List.getElem_map] at he
  rw [List.length_map] at hi hj
  have := h.apart i j _ _ (List.getElem?_eq_getElem hi) (List.getElem?_eq_getElem hj) he
  omega
theorem crA_used {w : World} {t : Nat} {T : Tp} (h : TapeAt w t T) {ns : List Int} (hp : ns.Perm (T.L.map (·.n))) (ks : List Int) {i : Nat} (hi : i ≤ ns.length) : sumA (crA T.L ns ks i) ≤ 1048576 := by
  have h1 := crA_sum T.L ns ks i hi
  have h2 := sum_sub ns (lenOf T.L) i
  have h3 : (ns.map (lenOf T.L)).sum = ((T.L.map (·.n)).map (lenOf T.L)).sum := (hp.map _).sum_nat
  rw [lenOf_sum h.apart] at h3
  have := h.used
  omega
theorem crA_names {L : List Ent} {ns ks : List Int} {i : Nat} (hn : ns.Nodup) (hi : i < ns.length) : ∀ x ∈ crA L ns ks i, x.1 ≠ ns[i] := by
  intro x hx he
  unfold crA at hx
  obtain ⟨j, hj, hx⟩ := List.mem_flatMap.1 hx
  have hj := List.mem_range.1 hj
  have h1 := kept_name x hx
  rw [List.getElem?_eq_getElem (show j < ns.length by omega), Option.getD_some] at h1
  exact (List.pairwise_iff_getElem.1 hn) j i (by omega) hi hj (by rw [← h1, ← he])
theorem own_row {w : World} {base : Nat} {v : Value} {l : List UInt8} (h : OwnBy w base v l) : RowIs w 1 v l.length (bc l) ∧ ∀ g, v.ownBlock = some g → base ≤ g := by
  rcases h with ⟨rfl, rfl⟩ | ⟨g, cap, rfl, h⟩
  · exact ⟨.inl ⟨rfl, rfl, rfl⟩, fun g h => by cases h⟩
  · refine ⟨.inr ⟨g, cap, rfl, by rw [bc_length]; omega, h.le, ⟨h.lt, by rw [bc_length]; have := h.le; omega, h.max, fun j b hj => ?_, fun j hj => h.there j (by omega)⟩⟩, fun g' e => by cases e; exact h.new⟩
    obtain ⟨x, hx, rfl⟩ := bc_at hj
    exact h.holds j x hx
/-- A segment with bytes is put into the map. -/
theorem TapeAt.add {w w' : World} {t : Nat} {T : Tp} (h : TapeAt w t T) {m : Nat} (hTm : T.m = some m) (e : Ent) (h64 : T.L.length < 64) (hu : Go.Proofs.YtnegnokielmgkaaGreatDoor.used T.L + e.b.length ≤ 1048576)
    (hs : w.heap.size ≤ w'.heap.size) (hk : ∀ k, k < w.heap.size → k ≠ m → w'.heap[k]? = w.heap[k]?) (hM : MapIs Tryz.prog 3 w' m ((T.L ++ [e]).map Ent.me) (T.clock + 1)) (he : SegAt w' e)
    (hb : ∀ k ∈ e.blocks, w.heap.size ≤ k) (ho : e.v.ownBlock ≠ some e.sb) : TapeAt w' t { T with L := T.L ++ [e], clock := T.clock + 1 } := by
  have hmt : t ≠ m := fun e1 => h.sep.tm (by rw [hTm, e1])
  have hml := h.ltM m hTm
  refine ⟨(hk t h.ltT hmt).trans h.head, ?_, fun x hx => ?_, h.sep.snoc w.heap.size h.ltE h.ltT ?_ hb ho, by simp; omega, by rw [used_snoc]; exact hu, h.room, h.left⟩
  · show MapPart w' T.m (T.L ++ [e]) (T.clock + 1)
    rw [hTm]
    exact hM
  · rcases List.mem_append.1 hx with hx | hx
    · exact (h.segs x hx).keep hs fun k hkx => hk k (h.ltE x hx k hkx) (fun e1 => (h.sep.te x hx k hkx).2 (by rw [hTm, e1]))
    · obtain rfl : x = e := by simpa using hx
      exact he
  · intro k hkx e1
    rw [hTm] at e1
    have := hb k hkx
    have := Option.some.inj e1
    omega

/-- Where a crash stands behind i segments. -/
structure CrInv (w : World) (t : Nat) (T : Tp) (v : Value) (ns ks : List Int) (i : Nat) (W : World) (TC : Tp) : Prop where
  tape : TapeAt W (w.heap.size + 1) TC
  m : TC.m = some w.heap.size
  room : TC.room = T.room
  fused : TC.fused = false
  left : TC.left = 0
  down : TC.down = false
  abs : abs TC.L = crA T.L ns ks i
  new : ∀ k ∈ TC.blocks (w.heap.size + 1), w.heap.size ≤ k
  row : RowIs W 1 v ns.length (ns.map (Value.int .i64))
  own : ∀ g, v.ownBlock = some g → w.heap.size ≤ g ∧ g ∉ TC.blocks (w.heap.size + 1)
  below : Below w.heap.size w W
def crashT (w : World) (T : Tp) : Tp := ⟨some w.heap.size, [], 0, T.room, false, 0, false⟩
theorem crash_start {w W : World} {t : Nat} {T : Tp} (hT : TapeAt w t T) {v : Value} {ns : List Int} (ks : List Int) (hrow : RowIs W 1 v ns.length (ns.map (Value.int .i64)))
    (hown : ∀ g, v.ownBlock = some g → w.heap.size + 2 ≤ g) (hb : Below (w.heap.size + 2) ((w.alloc (.map #[] 0)).alloc (.cells #[.map (some w.heap.size), .int .i64 (T.room : Int), .bool false, .int .i64 0, .bool false] 77)) W) :
    CrInv w t T v ns ks 0 W (crashT w T) := by
  have h0 : ((w.alloc (.map #[] 0)).alloc (.cells #[.map (some w.heap.size), .int .i64 (T.room : Int), .bool false, .int .i64 0, .bool false] 77)).heap[w.heap.size]? = some (.map #[] 0) := by
    rw [Below.heap_alloc _ _ _ (by rw [asz]; omega)]; exact alloc_at _ _
  have h1 : ((w.alloc (.map #[] 0)).alloc (.cells #[.map (some w.heap.size), .int .i64 (T.room : Int), .bool false, .int .i64 0, .bool false] 77)).heap[w.heap.size + 1]? = some (.cells #[.map (some w.heap.size), .int .i64 (T.room : Int), .bool false, .int .i64 0, .bool false] 77 (0, 0)) := by
    have := alloc_at (w.alloc (.map #[] 0)) (.cells #[.map (some w.heap.size), .int .i64 (T.room : Int), .bool false, .int .i64 0, .bool false] 77)
    rw [asz] at this
    exact this
  have hbl : ∀ k ∈ (crashT w T).blocks (w.heap.size + 1), w.heap.size ≤ k ∧ k < w.heap.size + 2 := by
    intro k hk
    rcases mem_blocks.1 hk with h | h | ⟨e, he, h⟩
    · omega
    · have := Option.some.inj h; omega
    · cases he
  refine ⟨⟨(hb.block _ (by omega)).trans h1, ?_, (fun e he => by cases he), ⟨?_, (fun e he => by cases he), (fun i j a b k ha => by simp [crashT] at ha), (fun e he => by cases he)⟩, by simp [crashT], by simp [crashT, used], hT.room, by simp [crashT]⟩, rfl, rfl, rfl, rfl, rfl, rfl, fun k hk => (hbl k hk).1, hrow, fun g hg => ⟨by have := hown g hg; omega, fun hk => by have := hown g hg; have := (hbl g hk).2; omega⟩, ?_⟩
  · exact MapIs.keep (by have := mapMade_at (W := w) rfl; exact this.keep (Below.heap_alloc _ _ _ (by rw [asz]; omega))) (hb.block _ (by omega))
  · intro e
    have := Option.some.inj e
    omega
  · exact ((below_new _).trans ((below_new _).mono (by rw [asz]; omega))).trans (hb.mono (by omega))

section
variable {w : World} {t : Nat} {T : Tp} {v : Value} {ns ks : List Int} {i : Nat} {W W' : World} {TC : Tp}
theorem CrInv.keep (h : CrInv w t T v ns ks i W TC) (hb : Below W.heap.size W W') : CrInv w t T v ns ks i W' TC :=
  ⟨h.tape.below hb, h.m, h.room, h.fused, h.left, h.down, h.abs, h.new, h.row.below hb, h.own, h.below.trans (hb.mono h.below.size)⟩
/-- Nothing lasts of a segment. -/
theorem CrInv.skip (h : CrInv w t T v ns ks i W TC) (hk : kept T.L (ns[i]?.getD 0) (ks[i]?.getD 0) = []) : CrInv w t T v ns ks (i + 1) W TC :=
  ⟨h.tape, h.m, h.room, h.fused, h.left, h.down, by rw [crA_succ, hk, List.append_nil]; exact h.abs, h.new, h.row, h.own, h.below⟩
/-- Something lasts of a segment. -/
theorem CrInv.put (h : CrInv w t T v ns ks i W TC) (hT : TapeAt w t T) (hp : ns.Perm (T.L.map (·.n))) (hi : i < ns.length) {b : List UInt8} {n : Int} (hn0 : 0 ≤ n) (hn1 : n ≤ 1048576) (hk : kept T.L (ns[i]?.getD 0) (ks[i]?.getD 0) = [(n, b, b.length)]) {v2 : Value} {W1 w2 : World} (hW1 : Below W.heap.size W W1) (ho : OwnBy W1 W.heap.size v2 b)
    (hw2 : w2 = { W1.alloc (.cells #[v2, .int .i64 (b.length : Int)] 89) with heap := (W1.alloc (.cells #[v2, .int .i64 (b.length : Int)] 89)).heap.setIfInBounds w.heap.size (.map (TC.L.map Ent.me ++ [(⟨.int .i64 n, .pointer (some ⟨W1.heap.size, 0, none⟩), TC.clock⟩ : MapEntry)]).toArray (TC.clock + 1)) })
    (hM : MapIs Tryz.prog 3 w2 w.heap.size (TC.L.map Ent.me ++ [(⟨.int .i64 n, .pointer (some ⟨W1.heap.size, 0, none⟩), TC.clock⟩ : MapEntry)]) (TC.clock + 1)) :
    CrInv w t T v ns ks (i + 1) w2 { TC with L := TC.L ++ [⟨n, W1.heap.size, v2, b, b.length, TC.clock⟩], clock := TC.clock + 1 } := by
  have hml : w.heap.size < W.heap.size := h.tape.ltM _ h.m
  have hs1 := hW1.size
  have hsz : w2.heap.size = W1.heap.size + 1 := by rw [hw2, set_size, asz]
  have hother : ∀ k, k < W1.heap.size → k ≠ w.heap.size → w2.heap[k]? = W1.heap[k]? := fun k hk hkm => by
    rw [hw2, set_other (by omega)]; exact Below.heap_alloc _ _ _ hk
  obtain ⟨hrow, hnew⟩ := own_row ho
  have hcr := crA_succ T.L ns ks i
  rw [hk] at hcr
  have hsum := crA_used hT hp ks (show i + 1 ≤ ns.length by omega)
  have hln : (crA T.L ns ks (i + 1)).length ≤ 64 := by
    have h1 := crA_len T.L ns ks (i + 1)
    have h2 := hp.length_eq
    rw [List.length_map] at h2
    have := hT.few
    omega
  rw [hcr, ← h.abs] at hsum hln
  have hlen : TC.L.length < 64 := by
    rw [List.length_append] at hln
    simp [Go.Proofs.YtnegnokielmgkaaGreatDoor.abs] at hln
    omega
  have hused : used TC.L + b.length ≤ 1048576 := by
    have e1 := sumA_abs TC.L
    unfold sumA at hsum e1
    rw [List.map_append, List.sum_append] at hsum
    simp at hsum
    omega
  have hv2 : ∀ g, v2.ownBlock = some g → W.heap.size ≤ g ∧ g < W1.heap.size := fun g hg => ⟨hnew g hg, hrow.lt g hg⟩
  have hseg : SegAt w2 ⟨n, W1.heap.size, v2, b, b.length, TC.clock⟩ := by
    refine ⟨?_, hrow.keep (by omega) (fun g hg => hother g (hv2 g hg).2 (by have := (hv2 g hg).1; omega)), Nat.le_refl _, hn0, hn1⟩
    rw [hw2]
    exact (set_other (show w.heap.size ≠ W1.heap.size from by omega)).trans (alloc_at _ _)
  refine ⟨h.tape.add h.m _ hlen hused (by omega) (fun k hk hkm => (hother k (by omega) hkm).trans (hW1.block k hk)) (by rw [List.map_append]; exact hM) hseg ?_ ?_, h.m, h.room, h.fused, h.left, h.down, ?_, ?_, ?_, ?_, ?_⟩
  · intro k hk
    rcases List.mem_cons.1 hk with rfl | hk
    · exact hs1
    · exact hnew k (by simpa using hk)
  · intro e
    have := (hv2 _ e).2
    exact absurd this (Nat.lt_irrefl _)
  · rw [hcr, ← h.abs]
    simp [Go.Proofs.YtnegnokielmgkaaGreatDoor.abs]
  · intro k hk
    rcases mem_blocks.1 hk with h1 | h1 | ⟨e, he, h1⟩
    · omega
    · exact h.new k (mem_blocks.2 (.inr (.inl h1)))
    · rcases List.mem_append.1 he with he | he
      · exact h.new k (mem_blocks.2 (.inr (.inr ⟨e, he, h1⟩)))
      · obtain rfl := List.mem_singleton.1 he
        rcases List.mem_cons.1 h1 with rfl | h1
        · show w.heap.size ≤ W1.heap.size
          omega
        · have := hnew k (by simpa using h1)
          omega
  · refine h.row.keep (by omega) fun g hg => ?_
    have hgl := h.row.lt g hg
    rw [hother g (by omega) (fun e => (h.own g hg).2 (mem_blocks.2 (.inr (.inl (by rw [e]; exact h.m)))))]
    exact hW1.block g hgl
  · intro g hg
    refine ⟨(h.own g hg).1, fun hk => ?_⟩
    have hgl := h.row.lt g hg
    rcases mem_blocks.1 hk with h1 | h1 | ⟨e, he, h1⟩
    · exact (h.own g hg).2 (mem_blocks.2 (.inl h1))
    · exact (h.own g hg).2 (mem_blocks.2 (.inr (.inl h1)))
    · rcases List.mem_append.1 he with he | he
      · exact (h.own g hg).2 (mem_blocks.2 (.inr (.inr ⟨e, he, h1⟩)))
      · obtain rfl := List.mem_singleton.1 he
        rcases List.mem_cons.1 h1 with rfl | h1
        · have : W1.heap.size < W.heap.size := hgl
          omega
        · have := hnew g (by simpa using h1)
          omega
  · refine (h.below.trans (hW1.mono h.below.size)).trans ?_
    rw [hw2]
    exact (((Touch.refl (fun k => k = w.heap.size) W1).alloc _).set w.heap.size _ (fun _ => rfl)).below (fun i hi => by omega) (by have := h.below.size; omega)
end
end Go.Proofs.YtnegnokielmgkaaGreatDoor

namespace Go.Proofs.YtnegnokielmgkaaGreatDoor
open Go.RowKit
open Go.Maps (Keyed)

def CrashP (w : World) (T : Tp) (ks : List Int) (x : Ending) (w' : World) : Prop := ∃ (c : Nat) (TC : Tp) (ns : List Int), x = .returned (.pointer (some ⟨c, 0, none⟩)) ∧ TapeAt w' c TC ∧ TC.room = T.room ∧ TC.fused = false ∧ TC.left = 0 ∧ TC.down = false ∧
  ns.Perm (T.L.map (·.n)) ∧ ns.Pairwise (· ≤ ·) ∧ abs TC.L = crA T.L ns ks ns.length ∧ (∀ k ∈ TC.blocks c, w.heap.size ≤ k) ∧ Below w.heap.size w w'
set_option maxRecDepth 100000 in
set_option maxHeartbeats 2000000 in
theorem crash_any {w : World} {t : Nat} {T : Tp} (hT : TapeAt w t T) {kv : Value} {ks : List Int} (hks : IIs w kv ks) (hr : ∀ k ∈ ks, -9223372036854775808 ≤ k ∧ k ≤ 9223372036854775807) : Calls Tryz.prog 12 #[.pointer (some ⟨t, 0, none⟩), kv] w (CrashP w T ks) := by
  have hlt := hT.ltT
  have hroom : w.cell? ⟨t, 1, none⟩ = some (.int .i64 (T.room : Int)) := cell_of hT.head 1
  have hmap : w.cell? ⟨t, 0, none⟩ = some (.map T.m) := cell_of hT.head 0
  have HM := Lib.hid (fun W (hW : Below w.heap.size w W) => (hW.cell (p := ⟨t, 0, none⟩) hlt).trans hmap)
  have hroom2 : (w.alloc (.map #[] 0)).cell? ⟨t, 1, none⟩ = some (.int .i64 (T.room : Int)) := ((below_new (w := w) (.map #[] 0)).cell (p := ⟨t, 1, none⟩) hlt).trans hroom
  have hb0 : Below w.heap.size w ((w.alloc (.map #[] 0)).alloc (.cells #[.map (some w.heap.size), .int .i64 (T.room : Int), .bool false, .int .i64 0, .bool false] 77)) := (below_new _).trans ((below_new _).mono (by rw [asz]; omega))
  have HS := Lib.hid (segs_any (hT.below hb0))
  have HT := Lib.hid hT
  have HKS := Lib.hid hks
  have HR := Lib.hid hr
  obtain ⟨Ak, ck, rfl, hk1, hk2, hk3⟩ := hks
  have HK3 := Lib.hid (fun (i : Nat) (x : Int) (h : ks[i]? = some x) (W : World) (hW : Below w.heap.size w W) => (by
    obtain ⟨a, q1, q2, q3⟩ := hk3 i x h
    exact ⟨a, q1, (hW.cell (p := a.add i) (by rw [add_block]; exact q2)).trans q3⟩ : ∃ a : Addr, Ak = some a ∧ W.cell? (a.add i) = some (.int .i64 x)))
  have hmm := @run_makeMap Tryz.prog
  unfold maxLen at hk2
  clear hT hr hmap hk3 hb0
  go_enter Tryz.func12, Tryz.ntmps12
  go_wp2_with fail
  refine (HS.out).mono ?_
  rintro x W1 ⟨v, ns, rfl, hrow, hp, hpw, hown, hb1⟩
  have HI := Lib.hid (crash_start HT.out ks hrow (fun g hg => by have := hown g hg; rw [asz, asz] at this; omega) (by have := hb1; rw [asz, asz] at this; exact this))
  have HP := Lib.hid hp
  have HPW := Lib.hid hpw
  have HND : Hid ns.Nodup := (hp.nodup_iff).2 HT.out.nodup
  have hns : ns.length ≤ 64 := by
    have h2 := hp.length_eq
    rw [List.length_map] at h2
    have := HT.out.few
    omega
  obtain ⟨Av, cv, rfl, hv1, hv2, _, _, hv5⟩ := hrow.form
  unfold maxLen at hv2
  clear hrow hp hpw hown hb1 hv5
  go_wp2_with fail
  go_loopw [22] (fun i wr => ∃ (k : Nat) (TC : Tp), k ≤ ns.length ∧ i = .int .i64 k ∧ CrInv w t T (.slice Av ns.length cv) ns ks k wr TC) (fun i _ => ns.length - (intOf i).toNat)
  case atStart => exact ⟨0, _, by omega, rfl, HI.out⟩
  case round =>
    obtain ⟨k, TC, hk, rfl, hinv⟩ := hrel
    have HV := Lib.hid hinv
    clear hinv HI
    by_cases hlt2 : k < ns.length
    · have hnk : ns[k]? = some ns[k] := List.getElem?_eq_getElem hlt2
      obtain ⟨g, rfl, hcg⟩ : ∃ g, Av = some ⟨g, 0, none⟩ ∧ wr.cell? ⟨g, k, none⟩ = some (.int .i64 ns[k]) := by
        obtain ⟨A2, c2, e2, _, _, _, _, h6⟩ := HV.out.row.form
        injection e2 with e3 e4 e5
        subst e3
        exact h6 k _ (by rw [List.getElem?_map, hnk]; rfl)
      obtain ⟨e, he, hen⟩ : ∃ e ∈ T.L, e.n = ns[k] := by
        have := (HP.out.mem_iff (a := ns[k])).1 (List.getElem_mem hlt2)
        simpa using this
      obtain ⟨j, hj⟩ := List.getElem?_of_mem he
      have HTW := Lib.hid (HT.out.below HV.out.below)
      have hmw := HM.out wr HV.out.below
      have hnB : Hid (nameB ns[k] = true) := by rw [← hen]; exact HT.out.names e he
      have HJ := Lib.hid hj
      have HEN := Lib.hid hen
      have HE := Lib.hid he
      have hKI := Lib.hid (key_int hnB.out)
      have hkd : kept T.L (ns[k]?.getD 0) (ks[k]?.getD 0) = keptE e (ks[k]?.getD 0) := by rw [hnk, Option.getD_some, ← hen]; exact kept_at hj HT.out.apart _
      have HKD := Lib.hid hkd
      have hrk : -9223372036854775808 ≤ ks[k]?.getD 0 ∧ ks[k]?.getD 0 ≤ 9223372036854775807 := by
        cases h : ks[k]? with
        | none => simp
        | some x => exact HR.out x (List.mem_of_getElem? h)
      have HL := Lib.hid (lasting_any (HTW.out.segs e he) (Nat.le_trans (used_mem he) HT.out.used) (ks[k]?.getD 0) hrk.1 hrk.2)
      have HWS := Lib.hid HV.out.below.size
      have hcm : wr.cell? ⟨w.heap.size + 1, 0, none⟩ = some (.map (some w.heap.size)) := by rw [cell_of HV.out.tape.head 0, ← HV.out.m]; rfl
      have hcl := HV.out.tape.ltT
      have HCM := Lib.hid (fun W (hW : Below wr.heap.size wr W) => (hW.cell (p := ⟨w.heap.size + 1, 0, none⟩) hcl).trans hcm)
      have HMA : Hid (MapIs Tryz.prog 3 wr w.heap.size (TC.L.map Ent.me) TC.clock) := by have := HV.out.tape.map; rw [HV.out.m] at this; exact this
      have HMISS : Hid (∀ x ∈ TC.L.map Ent.me, x.key ≠ .int .i64 ns[k]) := by
        refine me_miss fun x hx hxn => ?_
        have h1 : (x.n, x.b, x.s) ∈ abs TC.L := List.mem_map.2 ⟨x, hx, rfl⟩
        rw [HV.out.abs] at h1
        exact crA_names HND.out hlt2 _ h1 hxn
      have hml : w.heap.size < wr.heap.size := MapIs.lt HMA.out
      have HNN := Lib.hid (nameB_iff.1 hnB.out)
      by_cases hkl : k < ks.length
      · have hkk : ks[k]? = some ks[k] := List.getElem?_eq_getElem hkl
        obtain ⟨ak, rfl, hck⟩ := HK3.out k _ hkk wr HV.out.below
        have HKK : Hid (ks[k]?.getD 0 = ks[k]) := by show _ = _; rw [hkk, Option.getD_some]
        rw [hkk, Option.getD_some] at HL HKD
        replace hkl : (k : Int) < (ks.length : Int) := by omega
        clear hj hen he hkd hrk hnk hkk hcm hcl hmm
        go_wp2_with (at_lookup; refine wpList_tape_hit _ rfl _ _ rfl HTW.out.map rfl ns[k] rfl hnB.out HJ.out HEN.out ?_)
        refine (HL.out).mono ?_
        rintro x W2 ⟨v2, rfl, ho2, hb2⟩
        have HB2 := Lib.hid hb2
        have HCW := HCM.out W2 hb2
        have HMA2 : Hid (∀ o, MapIs Tryz.prog 3 (W2.alloc o) w.heap.size (TC.L.map Ent.me) TC.clock) := fun o => (HMA.out.keep (hb2.block _ hml)).keep (Below.heap_alloc _ _ _ (Nat.lt_of_lt_of_le hml hb2.size))
        have hin := hb2.size
        unfold keptE at HKD
        generalize e.b.take (lastN e.b e.s ks[k]) = b at HKD ho2
        have HO2 := Lib.hid ho2
        have hb20 : b.length ≤ 9223372036854775807 := by
          rcases ho2 with ⟨_, rfl⟩ | ⟨g, c, _, h⟩
          · simp
          · have h1 := h.le; have h2 := h.max; unfold maxLen at h2; omega
        obtain ⟨A2, c2, rfl, _, _, h23⟩ := ho2.bis
        clear h23 ho2 hb2
        by_cases hb : b.length = 0
        · rw [if_pos hb] at HKD
          replace hb : ¬ ((0 : Int) < (b.length : Int)) := by omega
          have HFIN := Lib.hid ((HV.out.keep HB2.out).skip (by rw [HKK.out]; exact HKD.out))
          clear HCW hb20
          go_wp2_with fail
          go_roundw
          case rel => exact ⟨k + 1, TC, by omega, by go_num, HFIN.out⟩
          case measure => simp [intOf]; omega
        · rw [if_neg hb] at HKD
          replace hb : (0 : Int) < (b.length : Int) := by omega
          go_wp2_with (at_mapUpdate; refine wpList_put_miss _ rfl _ _ _ 75 rfl keyed Tryz.underlying75 (HMA2.out _) rfl _ _ rfl hKI.out _ rfl HMISS.out ?_; intro w2 hw2 hM2)
          have HFIN := Lib.hid (HV.out.put HT.out HP.out hlt2 HNN.out.1 HNN.out.2 (by rw [HKK.out, ← HEN.out]; exact HKD.out) HB2.out HO2.out hw2 hM2)
          have HW2 := Lib.hid hw2
          clear hw2 hM2 HCW
          go_wp2
          go_roundw
          case rel =>
            have e2 := HW2.out
            subst e2
            exact ⟨k + 1, _, by omega, by go_num, HFIN.out⟩
          case measure => simp [intOf]; omega
      · have hkk : ks[k]? = none := List.getElem?_eq_none (by omega)
        have HKK : Hid (ks[k]?.getD 0 = 0) := by show _ = _; rw [hkk, Option.getD_none]
        rw [hkk, Option.getD_none] at HL
        replace hkl : ¬ (k : Int) < (ks.length : Int) := by omega
        clear hj hen he hkd hrk hnk hcm hcl hmm
        rw [hkk, Option.getD_none] at HKD
        clear hkk
        go_wp2_with (at_lookup; refine wpList_tape_hit _ rfl _ _ rfl HTW.out.map rfl ns[k] rfl hnB.out HJ.out HEN.out ?_)
        refine (HL.out).mono ?_
        rintro x W2 ⟨v2, rfl, ho2, hb2⟩
        have HB2 := Lib.hid hb2
        have HCW := HCM.out W2 hb2
        have HMA2 : Hid (∀ o, MapIs Tryz.prog 3 (W2.alloc o) w.heap.size (TC.L.map Ent.me) TC.clock) := fun o => (HMA.out.keep (hb2.block _ hml)).keep (Below.heap_alloc _ _ _ (Nat.lt_of_lt_of_le hml hb2.size))
        have hin := hb2.size
        unfold keptE at HKD
        generalize e.b.take (lastN e.b e.s 0) = b at HKD ho2
        have HO2 := Lib.hid ho2
        have hb20 : b.length ≤ 9223372036854775807 := by
          rcases ho2 with ⟨_, rfl⟩ | ⟨g, c, _, h⟩
          · simp
          · have h1 := h.le; have h2 := h.max; unfold maxLen at h2; omega
        obtain ⟨A2, c2, rfl, _, _, h23⟩ := ho2.bis
        clear h23 ho2 hb2
        by_cases hb : b.length = 0
        · rw [if_pos hb] at HKD
          replace hb : ¬ ((0 : Int) < (b.length : Int)) := by omega
          have HFIN := Lib.hid ((HV.out.keep HB2.out).skip (by rw [HKK.out]; exact HKD.out))
          clear HCW hb20
          go_wp2_with fail
          go_roundw
          case rel => exact ⟨k + 1, TC, by omega, by go_num, HFIN.out⟩
          case measure => simp [intOf]; omega
        · rw [if_neg hb] at HKD
          replace hb : (0 : Int) < (b.length : Int) := by omega
          go_wp2_with (at_mapUpdate; refine wpList_put_miss _ rfl _ _ _ 75 rfl keyed Tryz.underlying75 (HMA2.out _) rfl _ _ rfl hKI.out _ rfl HMISS.out ?_; intro w2 hw2 hM2)
          have HFIN := Lib.hid (HV.out.put HT.out HP.out hlt2 HNN.out.1 HNN.out.2 (by rw [HKK.out, ← HEN.out]; exact HKD.out) HB2.out HO2.out hw2 hM2)
          have HW2 := Lib.hid hw2
          clear hw2 hM2 HCW
          go_wp2
          go_roundw
          case rel =>
            have e2 := HW2.out
            subst e2
            exact ⟨k + 1, _, by omega, by go_num, HFIN.out⟩
          case measure => simp [intOf]; omega
    · obtain rfl : k = ns.length := by omega
      go_wp2
      go_ret
      exact ⟨_, TC, ns, rfl, HV.out.tape, HV.out.room, HV.out.fused, HV.out.left, HV.out.down, HP.out, HPW.out, HV.out.abs, HV.out.new, HV.out.below⟩
end Go.Proofs.YtnegnokielmgkaaGreatDoor
