/- What lasts of a tape behind a crash, in plain lists, in the segments' order. -/
import Derived.Test.YtnegnokielmgkaaGreatDoorZKepA
import Derived.Test.YtnegnokielmgkaaGreatDoorZTapO
set_option linter.unusedSimpArgs false
set_option linter.unusedVariables false
set_option linter.unnecessarySimpa false
namespace Go.Proofs.YtnegnokielmgkaaGreatDoor
open Go.RowKit

/-! a crash -/
def keptA (A : List Sg) (n k : Int) : List Sg := match A.find? (fun x => x.1 == n) with
  | some x => keptS x k
  | none => []
theorem find_perm {A B : List Sg} (hA : (numsOf A).Nodup) (h : A.Perm B) (n : Int) : A.find? (fun x => x.1 == n) = B.find? (fun x => x.1 == n) := by
  have hB : (numsOf B).Nodup := (h.map _).nodup_iff.1 hA
  have one : ∀ {C : List Sg} (hC : (numsOf C).Nodup) {x : Sg}, x ∈ C → x.1 = n → C.find? (fun x => x.1 == n) = some x := by
    intro C hC x hx hn
    have h1 := lookS_of_mem (n := x.1) (b := x.2.1) (s := x.2.2) hC hx
    rw [hn] at h1
    unfold lookS at h1
    obtain ⟨y, hy, e⟩ := Option.map_eq_some_iff.1 h1
    have h2 : y.1 = n := by simpa using List.find?_some hy
    rw [hy]
    exact congrArg some (Prod.ext (h2.trans hn.symm) e)
  cases hf : A.find? (fun x => x.1 == n) with
  | none =>
    cases hg : B.find? (fun x => x.1 == n) with
    | none => rfl
    | some y =>
      have := List.find?_eq_none.1 hf y (h.mem_iff.2 (List.mem_of_find?_eq_some hg))
      exact absurd (List.find?_some hg) this
  | some x =>
    have hn : x.1 = n := by simpa using List.find?_some hf
    exact (one hB (h.mem_iff.1 (List.mem_of_find?_eq_some hf)) hn).symm
theorem keptE_S {e : Ent} (hs : e.s ≤ e.b.length) (k : Int) : keptE e k = keptS (e.n, e.b, e.s) k := by
  have h1 : lastS (e.n, e.b, e.s) k = lastN e.b e.s k := rfl
  have h2 := (lastS_le (x := (e.n, e.b, e.s)) hs k).2
  rw [h1] at h2
  have h3 : (e.b.take (lastN e.b e.s k)).length = lastN e.b e.s k := by rw [List.length_take]; exact Nat.min_eq_left h2
  unfold keptE keptS
  rw [h1, h3]
theorem kept_A {L : List Ent} (hs : ∀ e ∈ L, e.s ≤ e.b.length) (n k : Int) : kept L n k = keptA (abs L) n k := by
  unfold kept keptA abs
  rw [List.find?_map]
  have : ((fun x : Sg => x.1 == n) ∘ fun e : Ent => (e.n, e.b, e.s)) = fun e : Ent => e.n == n := rfl
  rw [this]
  cases hf : L.find? (fun e => e.n == n) with
  | none => rfl
  | some e => exact keptE_S (hs e (List.mem_of_find?_eq_some hf)) k
theorem flat_congr {α β : Type} {l : List α} {f g : α → List β} (h : ∀ x ∈ l, f x = g x) : l.flatMap f = l.flatMap g := by
  induction l with
  | nil => rfl
  | cons x l ih => rw [List.flatMap_cons, List.flatMap_cons, h x (List.mem_cons_self ..), ih (fun y hy => h y (List.mem_cons_of_mem _ hy))]
/-- What lasts of the tape is what lasts of the reference's, in the same order. -/
theorem crash_eq {L : List Ent} {A : List Sg} (hs : ∀ e ∈ L, e.s ≤ e.b.length) (hn : (numsOf (abs L)).Nodup) (hp : (abs L).Perm A) (hr : Rises A) {ns : List Int} (hns : ns.Perm (L.map (·.n))) (hso : ns.Pairwise (· ≤ ·)) (ks : List Int) : ns = A.map (·.1) ∧ crA L ns ks ns.length = crI A ks A.length := by
  have e0 : ns = A.map (·.1) := by
    have h1 : (L.map (·.n)).Perm (A.map (·.1)) := by
      have := hp.map (·.1)
      unfold abs at this
      rw [List.map_map] at this
      exact this
    have h2 : (A.map (·.1)).Pairwise (· ≤ ·) := by
      rw [List.pairwise_map]
      exact hr.imp (fun h => Int.le_of_lt h)
    exact List.Perm.eq_of_pairwise (fun a b _ _ h1 h2 => Int.le_antisymm h1 h2) hso h2 (hns.trans h1)
  refine ⟨e0, ?_⟩
  have hl : ns.length = A.length := by rw [e0, List.length_map]
  rw [hl]
  unfold crA crI
  refine flat_congr fun j hj => ?_
  rw [List.mem_range] at hj
  have hx : A[j]? = some A[j] := List.getElem?_eq_getElem hj
  rw [hx, kept_A hs]
  have hnj : ns[j]?.getD 0 = A[j].1 := by rw [e0, List.getElem?_map, hx]; rfl
  rw [hnj]
  unfold keptA
  rw [find_perm hn hp]
  have hmem : A[j] ∈ A := List.getElem_mem hj
  cases hf : A.find? (fun x => x.1 == A[j].1) with
  | none =>
    have := List.find?_eq_none.1 hf _ hmem
    simp at this
  | some x =>
    have h1 := List.mem_of_find?_eq_some hf
    have h2 : x.1 = A[j].1 := by simpa using List.find?_some hf
    have h3 := lookS_of_mem hr.nodup (n := x.1) (b := x.2.1) (s := x.2.2) h1
    have h4 := lookS_of_mem hr.nodup (n := A[j].1) (b := A[j].2.1) (s := A[j].2.2) hmem
    rw [h2, h4] at h3
    injection h3 with h3
    have : x = A[j] := Prod.ext h2 h3.symm
    rw [this]
end Go.Proofs.YtnegnokielmgkaaGreatDoor
