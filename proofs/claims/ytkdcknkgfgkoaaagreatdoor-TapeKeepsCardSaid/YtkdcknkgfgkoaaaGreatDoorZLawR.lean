/- TapeKeeps: what lasts of a tape, segment by segment. TapeKeeps: what its walk needs: operations in memory, the tape beside the one behind a crash, the start. -/
import Derived.Test.YtkdcknkgfgkoaaaGreatDoorZLawP
import Derived.Deep.CutBlock
import Derived.Test.YtkdcknkgfgkoaaaGreatDoorZCrcF
set_option linter.unusedSimpArgs false
set_option linter.unusedVariables false
set_option linter.unnecessarySimpa false
namespace Go.Proofs.YtkdcknkgfgkoaaaGreatDoor
open Go.RowKit

theorem lastN_le {b : List UInt8} {s : Nat} (hs : s ≤ b.length) (k : Int) : s ≤ lastN b s k ∧ lastN b s k ≤ b.length := lastS_le (x := (0, b, s)) hs k

/-- What lasts of one segment is a beginning of it, with all that is synced, and not empty. -/
theorem last_pre {L : List Ent} (hs : ∀ e ∈ L, e.s ≤ e.b.length) {ns ks : List Int} {i : Nat} {x : Int × List UInt8 × Nat} (hx : x ∈ crA L ns ks i) : ∃ e ∈ L, e.n = x.1 ∧ ∃ m, e.s ≤ m ∧ m ≤ e.b.length ∧ 0 < m ∧ x.2.1 = e.b.take m ∧ x.2.2 = m := by
  unfold crA at hx
  obtain ⟨j, _, hx⟩ := List.mem_flatMap.1 hx
  unfold kept at hx
  cases h : L.find? (fun e' => e'.n == ns[j]?.getD 0) with
  | none => rw [h] at hx; cases hx
  | some e =>
    rw [h] at hx
    have he := List.mem_of_find?_eq_some h
    obtain ⟨h1, h2⟩ := lastN_le (hs e he) (ks[j]?.getD 0)
    have hl : (e.b.take (lastN e.b e.s (ks[j]?.getD 0))).length = lastN e.b e.s (ks[j]?.getD 0) := by rw [List.length_take]; omega
    simp only [keptE] at hx
    rw [hl] at hx
    split at hx
    · cases hx
    · obtain rfl := List.mem_singleton.1 hx
      exact ⟨e, he, rfl, _, h1, h2, by omega, rfl, rfl⟩

/-- A segment of which something is synced lasts. -/
theorem last_all {L : List Ent} (hs : ∀ e ∈ L, e.s ≤ e.b.length) (hone : ∀ (i i' : Nat) (a b : Ent), L[i]? = some a → L[i']? = some b → a.n = b.n → i = i') {ns ks : List Int} {e : Ent} (he : e ∈ L) (hn : e.n ∈ ns) (h0 : 0 < e.s) : ∃ x ∈ crA L ns ks ns.length, x.1 = e.n := by
  obtain ⟨j, hj, hjn⟩ := List.getElem_of_mem hn
  obtain ⟨i, hi⟩ := List.getElem?_of_mem he
  obtain ⟨h1, h2⟩ := lastN_le (hs e he) (ks[j]?.getD 0)
  have hl : (e.b.take (lastN e.b e.s (ks[j]?.getD 0))).length = lastN e.b e.s (ks[j]?.getD 0) := by rw [List.length_take]; omega
  refine ⟨(e.n, e.b.take (lastN e.b e.s (ks[j]?.getD 0)), (e.b.take (lastN e.b e.s (ks[j]?.getD 0))).length), ?_, rfl⟩
  unfold crA
  refine List.mem_flatMap.2 ⟨j, List.mem_range.2 hj, ?_⟩
  rw [List.getElem?_eq_getElem hj, hjn]
  show _ ∈ kept L e.n _
  rw [kept_at hi hone]
  simp only [keptE]
  rw [if_neg (by rw [hl]; omega)]
  exact List.mem_singleton.2 rfl

/-- The tape behind a crash, beside the one ahead. -/
structure Lasts (L C : List Ent) : Prop where
  pre : ∀ x ∈ C, ∃ e ∈ L, e.n = x.n ∧ ∃ m, e.s ≤ m ∧ m ≤ e.b.length ∧ 0 < m ∧ x.b = e.b.take m ∧ x.s = m
  all : ∀ e ∈ L, 0 < e.s → ∃ x ∈ C, x.n = e.n
theorem lasts_of {L C : List Ent} (hs : ∀ e ∈ L, e.s ≤ e.b.length) (hone : ∀ (i i' : Nat) (a b : Ent), L[i]? = some a → L[i']? = some b → a.n = b.n → i = i') {ns ks : List Int} (hp : ns.Perm (L.map (·.n))) (hc : abs C = crA L ns ks ns.length) : Lasts L C := by
  refine ⟨fun x hx => ?_, fun e he h0 => ?_⟩
  · have h1 : (x.n, x.b, x.s) ∈ abs C := List.mem_map.2 ⟨x, hx, rfl⟩
    rw [hc] at h1
    exact last_pre hs h1
  · obtain ⟨y, hy, e1⟩ := last_all (ks := ks) hs hone he (hp.mem_iff.2 (List.mem_map.2 ⟨e, he, rfl⟩)) h0
    rw [← hc] at hy
    obtain ⟨x, hx, rfl⟩ := List.mem_map.1 hy
    exact ⟨x, hx, e1⟩
end Go.Proofs.YtkdcknkgfgkoaaaGreatDoor

namespace Go.Proofs.YtkdcknkgfgkoaaaGreatDoor
open Go.RowKit

/-- A value that reads as a list of operations, by the world ahead of the law. -/
def OpsIs (w : World) (v : Value) (m : Nat) : Prop :=
  ∃ A cap, v = .slice A m cap ∧ m ≤ cap ∧ cap ≤ maxLen ∧ ∀ i, i < m → ∃ (a : Addr) (kd n x : Int) (bv kv : Value) (b : List UInt8) (ks : List Int), A = some a ∧ a.block < w.heap.size ∧
    w.cell? (a.add (i * 5)) = some (.int .i64 kd) ∧ w.cell? ((a.add (i * 5)).add 1) = some (.int .i64 n) ∧ w.cell? ((a.add (i * 5)).add 2) = some (.int .i64 x) ∧ w.cell? ((a.add (i * 5)).add 3) = some bv ∧ w.cell? ((a.add (i * 5)).add 4) = some kv ∧ OpIs w (.agg #[.int .i64 kd, .int .i64 n, .int .i64 x, bv, kv]) kd n x b ks

/-- The tape and the one behind a crash. -/
structure Cr (w0 w : World) (t c : Nat) (T TC : Tp) : Prop where
  t : TapeAt w t T
  c : TapeAt w c TC
  last : Lasts T.L TC.L
  up : TC.down = false
  below : Below w0.heap.size w0 w
theorem Cr.keep {w0 w w' : World} {t c : Nat} {T TC : Tp} (h : Cr w0 w t c T TC) (hb : Below w.heap.size w w') : Cr w0 w' t c T TC := ⟨h.t.below hb, h.c.below hb, h.last, h.up, h.below.trans (hb.mono h.below.size)⟩
theorem cr_of {w0 w w5 : World} {t r c : Nat} {T : Tp} {R : RTp} {ks : List Int} (h : TR w0 w t r T R) (hc : CrT w T ks c w5) (hb : Below w.heap.size w w5) : ∃ TC, Cr w0 w5 t c T TC := by
  obtain ⟨c', TC, ns, e1, k1, k2, k3, k4, k5, k6, k7, k8, k9, k10⟩ := hc
  have hcc : c' = c := by
    injection e1 with e1
    injection e1 with e1
    injection e1 with e1
    injection e1 with e1
    exact e1.symm
  subst hcc
  exact ⟨TC, h.tape.below hb, k1, lasts_of (fun e he => (h.tape.segs e he).le) h.tape.apart k6 k8, k5, h.below.trans (hb.mono h.below.size)⟩

theorem Cr.hit {w0 w : World} {t c : Nat} {T TC : Tp} (h : Cr w0 w t c T TC) {ns : List Int} (hp : ns.Perm (TC.L.map (·.n))) {k : Nat} {s : Int} (hk : ns[k]? = some s) : ∃ lt lc : Nat, lc ≤ lt ∧ 0 < lc ∧ lt ≤ 1048576 ∧ ∀ V, Below w.heap.size w V → Calls Tryz.prog 14 #[.pointer (some ⟨t, 0, none⟩), .int .i64 s] V (fun e w' => e = .returned (.int .i64 (lt : Int)) ∧ V = w') ∧ Calls Tryz.prog 14 #[.pointer (some ⟨c, 0, none⟩), .int .i64 s] V (fun e w' => e = .returned (.int .i64 (lc : Int)) ∧ V = w') := by
  obtain ⟨x, hx, rfl⟩ := List.mem_map.1 (hp.mem_iff.1 (List.mem_of_getElem? hk))
  obtain ⟨e, he, hn, m, h1, h2, h3, h4, h5⟩ := h.last.pre x hx
  obtain ⟨j, hj⟩ := List.getElem?_of_mem hx
  obtain ⟨i, hi⟩ := List.getElem?_of_mem he
  have hnb : nameB x.n = true := nameB_iff.2 (by have := h.c.segs x hx; exact ⟨this.lo, this.hi⟩)
  have hl : x.b.length = m := by rw [h4, List.length_take]; omega
  have hu : e.b.length ≤ 1048576 := Nat.le_trans (used_mem he) h.t.used
  exact ⟨e.b.length, x.b.length, by omega, by omega, hu, fun V hV => ⟨len_hit (h.t.below hV) hnb hi hn, len_hit (h.c.below hV) hnb hj rfl⟩⟩

theorem Cr.hit3 {w0 w : World} {t c : Nat} {T TC : Tp} (h : Cr w0 w t c T TC) (hG : Glob w) {ns : List Int} (hp : ns.Perm (T.L.map (·.n))) {k : Nat} {s : Int} (hk : ns[k]? = some s) : ∃ (b got : List UInt8) (sy : Nat) (er : Int), sy ≤ got.length ∧ got.length ≤ b.length ∧ b.take got.length = got ∧ b.length ≤ 1048576 ∧ ∀ V, Below w.heap.size w V →
    Calls Tryz.prog 15 #[.pointer (some ⟨t, 0, none⟩), .int .i64 s] V (fun e w' => ∃ v, e = .returned (.tuple #[v, .int .i64 0]) ∧ BIs w' v b ∧ Below V.heap.size V w') ∧
    Calls Tryz.prog 15 #[.pointer (some ⟨c, 0, none⟩), .int .i64 s] V (fun e w' => ∃ v, e = .returned (.tuple #[v, .int .i64 er]) ∧ BIs w' v got ∧ Below V.heap.size V w') ∧
    Calls Tryz.prog 16 #[.pointer (some ⟨t, 0, none⟩), .int .i64 s] V (fun e w' => e = .returned (.int .i64 (sy : Int)) ∧ Below V.heap.size V w') ∧
    Calls Tryz.prog 16 #[.pointer (some ⟨c, 0, none⟩), .int .i64 s] V (fun e w' => e = .returned (.int .i64 (got.length : Int)) ∧ Below V.heap.size V w') := by
  obtain ⟨e, he, rfl⟩ := List.mem_map.1 (hp.mem_iff.1 (List.mem_of_getElem? hk))
  obtain ⟨i, hi⟩ := List.getElem?_of_mem he
  have hnb : nameB e.n = true := nameB_iff.2 (by have := h.t.segs e he; exact ⟨this.lo, this.hi⟩)
  have hu : e.b.length ≤ 1048576 := Nat.le_trans (used_mem he) h.t.used
  by_cases hex : ∃ x ∈ TC.L, x.n = e.n
  · obtain ⟨x, hx, hxn⟩ := hex
    obtain ⟨e2, he2, hn2, m, h1, h2, h3, h4, h5⟩ := h.last.pre x hx
    obtain ⟨i2, hi2⟩ := List.getElem?_of_mem he2
    obtain rfl := h.t.one hi hi2 (by rw [hn2, hxn])
    rw [hi] at hi2
    obtain rfl := Option.some.inj hi2
    obtain ⟨j, hj⟩ := List.getElem?_of_mem hx
    have hl : x.b.length = m := by rw [h4, List.length_take]; omega
    refine ⟨e.b, x.b, e.s, 0, by omega, by omega, by rw [hl]; exact h4.symm, hu, fun V hV => ⟨?_, ?_, ?_, ?_⟩⟩
    · exact (read_hit (h.t.below hV) hnb hi rfl).mono fun y w' k => by obtain ⟨v, k1, k2, k3⟩ := k; exact ⟨v, k1, row_bis (own_row k2).1, k3⟩
    · exact (read_hit (h.c.below hV) hnb hj hxn).mono fun y w' k => by obtain ⟨v, k1, k2, k3⟩ := k; exact ⟨v, k1, row_bis (own_row k2).1, k3⟩
    · exact (synced_hit (h.t.below hV) hnb hi rfl).mono fun y w' k => ⟨k.1, by rw [← k.2]; exact Below.refl _ _⟩
    · exact (synced_hit (h.c.below hV) hnb hj hxn).mono fun y w' k => ⟨by rw [hl, ← h5]; exact k.1, by rw [← k.2]; exact Below.refl _ _⟩
  · have h0 : e.s = 0 := by
      by_cases h0 : e.s = 0
      · exact h0
      · exact absurd (h.last.all e he (by omega)) hex
    have hno : ∀ x ∈ TC.L, x.n ≠ e.n := fun x hx hn => hex ⟨x, hx, hn⟩
    refine ⟨e.b, [], e.s, 3, by rw [h0]; exact Nat.le_refl _, Nat.zero_le _, rfl, hu, fun V hV => ⟨?_, ?_, ?_, ?_⟩⟩
    · exact (read_hit (h.t.below hV) hnb hi rfl).mono fun y w' k => by obtain ⟨v, k1, k2, k3⟩ := k; exact ⟨v, k1, row_bis (own_row k2).1, k3⟩
    · exact (read_miss (hG.below hV) (h.c.below hV) hnb hno).mono fun y w' k => ⟨_, k.1, bis_zero w' none (by unfold maxLen; omega), k.2⟩
    · exact (synced_hit (h.t.below hV) hnb hi rfl).mono fun y w' k => ⟨k.1, by rw [← k.2]; exact Below.refl _ _⟩
    · exact synced_miss (h.c.below hV) hnb hno

theorem start_TR {w0 w1 w2 : World} (hG : Glob w0) {t : Nat} (ht : w0.heap.size ≤ t) (hT : TapeAt w1 t (newT 5000)) (h1 : Below w0.heap.size w0 w1) (hN : (newT 5000).blocks t = [t]) (hR : RefAt w2 w1.heap.size (newR 5000)) (h2 : Below w1.heap.size w1 w2) : TR w0 w2 t w1.heap.size (newT 5000) (newR 5000) := by
  have hlt := hT.lt t (by rw [hN]; exact List.mem_singleton.2 rfl)
  refine ⟨hT.below h2, ⟨hR, fun x hx => (by cases hx), ?_, by show (0 : Nat) ≤ 64; omega, by show (0 : Nat) ≤ 1048576; omega, ⟨5000, rfl, by omega⟩, ⟨by show (-1 : Int) ≤ -1; omega, by show (-1 : Int) ≤ _; omega⟩, fun x hx => (by cases hx)⟩, ⟨rfl, .refl _, rfl, rfl⟩, hG, h1.trans (h2.mono h1.size), fun k hk => ?_, fun k hk => ?_, fun k hk hR' => ?_⟩
  · exact List.Pairwise.nil
  · rw [hN] at hk; obtain rfl := List.mem_singleton.1 hk; exact ht
  · rcases hk with rfl | hk | ⟨x, hx, _⟩
    · exact h1.size
    · cases hk
    · cases hx
  · rw [hN] at hk
    obtain rfl := List.mem_singleton.1 hk
    rcases hR' with e | e | ⟨x, hx, _⟩
    · omega
    · cases e
    · cases hx

end Go.Proofs.YtkdcknkgfgkoaaaGreatDoor
