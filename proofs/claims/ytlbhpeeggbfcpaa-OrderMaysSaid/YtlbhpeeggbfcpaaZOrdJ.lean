/- order: what Waits reckons while it goes on, in plain words. -/
import Derived.Test.YtlbhpeeggbfcpaaZOrdA
import Derived.Test.YtlbhpeeggbfcpaaZWaiW
set_option linter.unusedSimpArgs false
set_option linter.unusedVariables false
set_option linter.unnecessarySimpa false
namespace Go.Proofs.Ytlbhpeeggbfcpaa
open Go.RowKit

def sT (T : Gr) (n : Nat) : List Int := ((T[n]?).map (·.2)).getD []
def gT (T : Gr) (n : Nat) : Int := ((T[n]?).map (·.1)).getD 0
theorem sT_at {T : Gr} {n : Nat} {u : Int × List Int} (h : T[n]? = some u) : sT T n = u.2 := by unfold sT; rw [h]; rfl
theorem gT_at {T : Gr} {n : Nat} {u : Int × List Int} (h : T[n]? = some u) : gT T n = u.1 := by unfold gT; rw [h]; rfl
/-- The places by sites, when i users were there whole, and of the next one j sites. -/
structure PlaI (T : Gr) (i j : Nat) (G : Gr) : Prop where
  mem : ∀ s y, y ∈ at_ G s ↔ ∃ n : Nat, y = (n : Int) ∧ ((n < i ∧ s ∈ sT T n) ∨ (n = i ∧ s ∈ (sT T i).take j))
  few : ∀ s, (at_ G s).length ≤ i * 1000 + j
theorem PlaI.start (T : Gr) : PlaI T 0 0 [] := ⟨fun s y => by simp [at_], fun s => by simp [at_]⟩
theorem PlaI.put {T : Gr} {i j : Nat} {G : Gr} {s : Int} (h : PlaI T i j G) (hs : (sT T i)[j]? = some s) : PlaI T i (j + 1) (putK G s (at_ G s ++ [(i : Int)])) := by
  refine ⟨fun t y => ?_, fun t => ?_⟩
  · rw [at_putK, List.take_add_one, hs]
    have et : ∀ L : List Int, (L ++ (some s).toList) = L ++ [s] := fun L => rfl
    rw [et]
    by_cases ht : t = s
    · rw [if_pos ht, List.mem_append, h.mem, List.mem_singleton, ht]
      constructor
      · rintro (⟨n, e, h1 | ⟨h1, h2⟩⟩ | e)
        · exact ⟨n, e, .inl h1⟩
        · exact ⟨n, e, .inr ⟨h1, List.mem_append_left _ h2⟩⟩
        · exact ⟨i, e, .inr ⟨rfl, by simp⟩⟩
      · rintro ⟨n, e, h1 | ⟨h1, h2⟩⟩
        · exact .inl ⟨n, e, .inl h1⟩
        · exact .inr (by rw [e, h1])
    · rw [if_neg ht, h.mem]
      constructor
      · rintro ⟨n, e, h1 | ⟨h1, h2⟩⟩
        · exact ⟨n, e, .inl h1⟩
        · exact ⟨n, e, .inr ⟨h1, List.mem_append_left _ h2⟩⟩
      · rintro ⟨n, e, h1 | ⟨h1, h2⟩⟩
        · exact ⟨n, e, .inl h1⟩
        · rcases List.mem_append.1 h2 with h3 | h3
          · exact ⟨n, e, .inr ⟨h1, h3⟩⟩
          · exact absurd (List.mem_singleton.1 h3) ht
  · rw [at_putK]
    split
    · rw [List.length_append, List.length_singleton]; have := h.few s; omega
    · have := h.few t; omega
theorem PlaI.next {T : Gr} {i : Nat} {G : Gr} (h : PlaI T i (sT T i).length G) (hl : (sT T i).length ≤ 1000) : PlaI T (i + 1) 0 G := by
  refine ⟨fun s y => ?_, fun s => Nat.le_trans (h.few s) (by rw [Nat.add_mul, Nat.one_mul, Nat.add_zero]; exact Nat.add_le_add_left hl _)⟩
  rw [h.mem, List.take_length]
  constructor
  · rintro ⟨n, e, ⟨h1, h2⟩ | ⟨h1, h2⟩⟩
    · exact ⟨n, e, .inl ⟨by omega, h2⟩⟩
    · exact ⟨n, e, .inl ⟨by omega, by rw [h1]; exact h2⟩⟩
  · rintro ⟨n, e, ⟨h1, h2⟩ | ⟨h1, h2⟩⟩
    · by_cases hn : n = i
      · exact ⟨n, e, .inr ⟨hn, by rw [← hn]; exact h2⟩⟩
      · exact ⟨n, e, .inl ⟨by omega, h2⟩⟩
    · simp at h2
/-- Between two users: nobody was met by the next one. -/
def BtwI (i : Nat) (M : List Int) : Prop := ∀ (n : Nat) (x : Int), M[n]? = some x → 0 ≤ x ∧ (x < i ∨ x = 0)
theorem BtwI.start (n : Nat) : BtwI 0 (List.replicate n 0) := fun m x h => by
  rw [List.getElem?_replicate] at h
  split at h
  · injection h with h; omega
  · cases h
/-- While user i goes on: who was met is who is ahead. -/
structure MetI (i : Nat) (M A : List Int) : Prop where
  low : ∀ (n : Nat) (x : Int), M[n]? = some x → 0 ≤ x ∧ x ≤ i
  met : ∀ (n : Nat) (x : Int), M[n]? = some x → n < i → ((n : Int) ∈ A ↔ x = i)
  one : A.Nodup
  sub : ∀ y ∈ A, ∃ n : Nat, y = (n : Int) ∧ n < i
theorem BtwI.met {i : Nat} {M : List Int} (h : BtwI i M) : MetI i M [] := by
  refine ⟨fun n x hx => ?_, fun n x hx hn => ?_, List.nodup_nil, fun y hy => by cases hy⟩
  · obtain ⟨a, b | b⟩ := h n x hx
    · exact ⟨a, by omega⟩
    · exact ⟨a, by omega⟩
  · obtain ⟨a, b | b⟩ := h n x hx
    · simp; omega
    · simp; omega
theorem MetI.next {i : Nat} {M A : List Int} (h : MetI i M A) : BtwI (i + 1) M := fun n x hx => by
  obtain ⟨a, b⟩ := h.low n x hx
  exact ⟨a, .inl (by omega)⟩
theorem MetI.add {i n : Nat} {M A : List Int} {x : Int} (h : MetI i M A) (hx : M[n]? = some x) (hn : n < i) (hlt : x < i) : MetI i (M.set n (i : Int)) (A ++ [(n : Int)]) := by
  have hno : (n : Int) ∉ A := fun e => by have := (h.met n x hx hn).1 e; omega
  have hnl := (List.getElem?_eq_some_iff.1 hx).1
  refine ⟨fun m y hy => ?_, fun m y hy hm => ?_, ?_, fun y hy => ?_⟩
  · rw [List.getElem?_set] at hy
    split at hy
    · next e =>
      first | (rw [if_pos (by omega)] at hy) | skip
      injection hy with hy
      omega
    · exact h.low m y hy
  · rw [List.getElem?_set] at hy
    rw [List.mem_append, List.mem_singleton]
    split at hy
    · next e =>
      first | (rw [if_pos (by omega)] at hy) | skip
      injection hy with hy
      subst e
      exact ⟨fun _ => hy.symm, fun _ => .inr rfl⟩
    · next e =>
      rw [← h.met m y hy hm]
      exact ⟨fun e' => e'.elim id (fun e' => absurd (by omega) e), .inl⟩
  · rw [List.nodup_append]
    exact ⟨h.one, by simp, fun a ha b hb e => by
      rw [List.mem_singleton] at hb
      exact hno (by rw [← hb, ← e]; exact ha)⟩
  · rcases List.mem_append.1 hy with e | e
    · exact h.sub y e
    · rw [List.mem_singleton] at e
      exact ⟨n, e, hn⟩
theorem MetI.few {i : Nat} {M A : List Int} (h : MetI i M A) : A.length ≤ i := by
  have := nodup_le (m := (List.range i).map fun n : Nat => (n : Int)) h.one (fun y hy => by
    obtain ⟨n, e, hn⟩ := h.sub y hy
    exact List.mem_map.2 ⟨n, List.mem_range.2 hn, e.symm⟩)
  rwa [List.length_map, List.length_range] at this
/-- Who is ahead of user i, by its first j sites and some of those at the next one. -/
def AhdI (T : Gr) (i j : Nat) (K A : List Int) : Prop := ∀ y, y ∈ A ↔ (∃ n : Nat, y = (n : Int) ∧ n < i ∧ ∃ s ∈ (sT T i).take j, s ∈ sT T n) ∨ y ∈ K
theorem AhdI.start (T : Gr) (i : Nat) : AhdI T i 0 [] [] := fun y => by simp
theorem AhdI.skip {T : Gr} {i j : Nat} {K A : List Int} {y : Int} (h : AhdI T i j K A) (hy : y ∈ A) : AhdI T i j (K ++ [y]) A := fun z => by
  rw [h z, List.mem_append, List.mem_singleton]
  constructor
  · rintro (e | e)
    · exact .inl e
    · exact .inr (.inl e)
  · rintro (e | e | e)
    · exact .inl e
    · exact .inr e
    · rw [e]; exact (h y).1 hy
theorem AhdI.add {T : Gr} {i j : Nat} {K A : List Int} {y : Int} (h : AhdI T i j K A) : AhdI T i j (K ++ [y]) (A ++ [y]) := fun z => by
  rw [List.mem_append, h z, List.mem_append, or_assoc]
theorem AhdI.next {T : Gr} {i j : Nat} {G : Gr} {A : List Int} {s : Int} (h : AhdI T i j (at_ G s) A) (hp : PlaI T i j G) (hs : (sT T i)[j]? = some s) (hn : (sT T i).Nodup) : AhdI T i (j + 1) [] A := fun y => by
  have hno : s ∉ (sT T i).take j := fun e => by
    obtain ⟨m, hm⟩ := List.getElem?_of_mem e
    have hml := (List.getElem?_eq_some_iff.1 hm).1
    rw [List.length_take] at hml
    rw [List.getElem?_take_of_lt (by omega)] at hm
    rw [List.Nodup, List.pairwise_iff_getElem] at hn
    have hj := (List.getElem?_eq_some_iff.1 hs).1
    exact hn m j (by omega) hj (by omega) (by rw [(List.getElem?_eq_some_iff.1 hm).2, (List.getElem?_eq_some_iff.1 hs).2])
  rw [h y, List.take_add_one, hs, hp.mem]
  have et : ∀ L : List Int, (L ++ (some s).toList) = L ++ [s] := fun L => rfl
  rw [et]
  constructor
  · rintro (⟨n, e, hn, t, ht, hts⟩ | ⟨n, e, ⟨h1, h2⟩ | ⟨h1, h2⟩⟩)
    · exact .inl ⟨n, e, hn, t, List.mem_append_left _ ht, hts⟩
    · exact .inl ⟨n, e, h1, s, by simp, h2⟩
    · exact absurd h2 hno
  · rintro (⟨n, e, hn, t, ht, hts⟩ | e)
    · rcases List.mem_append.1 ht with h3 | h3
      · exact .inl ⟨n, e, hn, t, h3, hts⟩
      · rw [List.mem_singleton] at h3
        rw [h3] at hts
        exact .inr ⟨n, e, .inl ⟨hn, hts⟩⟩
    · cases e
theorem pla_sub {T : Gr} {i j : Nat} {G : Gr} {s y : Int} (hp : PlaI T i j G) (hs : (sT T i)[j]? = some s) (hn : (sT T i).Nodup) (hy : y ∈ at_ G s) : ∃ n : Nat, y = (n : Int) ∧ n < i := by
  obtain ⟨n, e, ⟨h1, _⟩ | ⟨h1, h2⟩⟩ := (hp.mem s y).1 hy
  · exact ⟨n, e, h1⟩
  · exfalso
    obtain ⟨m, hm⟩ := List.getElem?_of_mem h2
    have hml := (List.getElem?_eq_some_iff.1 hm).1
    rw [List.length_take] at hml
    rw [List.getElem?_take_of_lt (by omega)] at hm
    rw [List.Nodup, List.pairwise_iff_getElem] at hn
    have hj := (List.getElem?_eq_some_iff.1 hs).1
    exact hn m j (by omega) hj (by omega) (by rw [(List.getElem?_eq_some_iff.1 hm).2, (List.getElem?_eq_some_iff.1 hs).2])
/-- What is told of user i, when all its sites were there. -/
theorem ahead_done {l T : Gr} (h : TurnP l T) {i : Nat} {u : Int × List Int} (hu : T[i]? = some u) {M A : List Int} (hm : MetI i M A) (ha : AhdI T i (sT T i).length [] A) : (sorted A).map (fun y => gT T y.toNat) = aheadT T u := by
  have hone := h.one
  rw [List.pairwise_map] at hone
  have hkey : ∀ (a b : Nat) (x y : Int × List Int), T[a]? = some x → T[b]? = some y → (a < b ↔ x.1 < y.1) := fun a b x y hx hy => by
    rw [List.pairwise_iff_getElem] at hone
    have hal := (List.getElem?_eq_some_iff.1 hx).1
    have hbl := (List.getElem?_eq_some_iff.1 hy).1
    constructor
    · intro hab
      have := hone a b hal hbl hab
      rwa [(List.getElem?_eq_some_iff.1 hx).2, (List.getElem?_eq_some_iff.1 hy).2] at this
    · intro hxy
      rcases Nat.lt_trichotomy a b with e | e | e
      · exact e
      · subst e
        rw [hx] at hy
        injection hy with hy
        rw [hy] at hxy
        omega
      · have := hone b a hbl hal e
        rw [(List.getElem?_eq_some_iff.1 hx).2, (List.getElem?_eq_some_iff.1 hy).2] at this
        omega
  have hil := (List.getElem?_eq_some_iff.1 hu).1
  have hsm : ∀ y, y ∈ sorted A ↔ y ∈ A := fun y => (List.mergeSort_perm A _).mem_iff
  have hsr : (sorted A).Pairwise (· < ·) := by
    have h1 : (sorted A).Nodup := (List.mergeSort_perm A _).nodup_iff.2 hm.one
    have h2 := List.pairwise_mergeSort (le := fun x y : Int => decide (x ≤ y)) (by intro a b c; simp; omega) (by intro a b; simp; omega) A
    have h2 : (sorted A).Pairwise (· ≤ ·) := h2.imp (by simp)
    rw [List.Nodup] at h1
    exact h2.imp₂ (fun a b h1 h2 => by omega) h1
  refine lt_ext ?_ (aheadT_lt h.one u) (fun t => ?_)
  · rw [List.pairwise_map]
    refine hsr.imp_of_mem (fun {a b} ha' hb' hab => ?_)
    obtain ⟨n, e1, hn⟩ := hm.sub a ((hsm a).1 ha')
    obtain ⟨m, e2, hm'⟩ := hm.sub b ((hsm b).1 hb')
    subst e1 e2
    have hx : T[n]? = some T[n] := List.getElem?_eq_getElem (by omega)
    have hy : T[m]? = some T[m] := List.getElem?_eq_getElem (by omega)
    rw [Int.toNat_natCast, Int.toNat_natCast, gT_at hx, gT_at hy]
    exact (hkey n m _ _ hx hy).1 (by omega)
  · rw [List.mem_map, mem_aheadT]
    constructor
    · rintro ⟨y, hy, rfl⟩
      rcases (ha y).1 ((hsm y).1 hy) with ⟨n, rfl, hn, s, hs, hsn⟩ | e
      · have hx : T[n]? = some T[n] := List.getElem?_eq_getElem (by omega)
        rw [Int.toNat_natCast, gT_at hx]
        rw [List.take_length, sT_at hu] at hs
        rw [sT_at hx] at hsn
        exact ⟨_, List.getElem_mem (by omega), rfl, (hkey n i _ _ hx hu).1 hn, s, hs, hsn⟩
      · cases e
    · rintro ⟨v, hv, rfl, hlt, s, hs, hsv⟩
      obtain ⟨n, hn⟩ := List.getElem?_of_mem hv
      have hni : n < i := (hkey n i _ _ hn hu).2 hlt
      refine ⟨(n : Int), (hsm _).2 ((ha _).2 (.inl ⟨n, rfl, hni, s, by rw [List.take_length, sT_at hu]; exact hs, by rw [sT_at hn]; exact hsv⟩)), ?_⟩
      rw [Int.toNat_natCast, gT_at hn]
theorem waitsT_snoc {T : Gr} {i : Nat} {u : Int × List Int} (hu : T[i]? = some u) : waitsT T (i + 1) = waitsT T i ++ (aheadT T u).map fun t => (u.1, t) := by
  unfold waitsT
  rw [List.take_add_one, hu, List.flatMap_append]
  congr 1
  show List.flatMap _ [u] = _
  rw [List.flatMap_cons, List.flatMap_nil, List.append_nil]
end Go.Proofs.Ytlbhpeeggbfcpaa
