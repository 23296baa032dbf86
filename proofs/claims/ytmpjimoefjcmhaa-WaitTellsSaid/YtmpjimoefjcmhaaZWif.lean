/- Victim; lists that rise and have the same numbers are the same. -/
import Derived.Test.YtmpjimoefjcmhaaZWie
import Derived.Test.YtmpjimoefjcmhaaZWaiK
import Derived.Test.YtmpjimoefjcmhaaZWaiY
set_option linter.unusedSimpArgs false
set_option linter.unusedVariables false
set_option linter.unnecessarySimpa false
namespace Go.Proofs.Ytmpjimoefjcmhaa
open Go.RowKit

theorem rise_uniq : ∀ {a b : List Int}, a.Nodup → b.Nodup → a.Pairwise (· ≤ ·) → b.Pairwise (· ≤ ·) → (∀ y, y ∈ a ↔ y ∈ b) → a = b
  | [], [], _, _, _, _, _ => rfl
  | [], y :: b, _, _, _, _, h => by have := (h y).2 (by simp); cases this
  | x :: a, [], _, _, _, _, h => by have := (h x).1 (by simp); cases this
  | x :: a, y :: b, ha, hb, ra, rb, h => by
    rw [List.nodup_cons] at ha hb
    rw [List.pairwise_cons] at ra rb
    have hxy : x = y := by
      have h1 : x ∈ y :: b := (h x).1 (by simp)
      have h2 : y ∈ x :: a := (h y).2 (by simp)
      rcases List.mem_cons.1 h1 with e | e
      · exact e
      · rcases List.mem_cons.1 h2 with e2 | e2
        · exact e2.symm
        · have := ra.1 y e2
          have := rb.1 x e
          omega
    subst hxy
    congr 1
    refine rise_uniq ha.2 hb.2 ra.2 rb.2 (fun z => ?_)
    constructor
    · intro hz
      rcases List.mem_cons.1 ((h z).1 (List.mem_cons_of_mem _ hz)) with e | e
      · rw [e] at hz; exact (ha.1 hz).elim
      · exact e
    · intro hz
      rcases List.mem_cons.1 ((h z).2 (List.mem_cons_of_mem _ hz)) with e | e
      · rw [e] at hz; exact (hb.1 hz).elim
      · exact e
theorem CircP.uniq {l m : List (Int × Int)} {c d : List Int} (h : CircP l c) (k : CircP m d) (hm : ∀ e, e ∈ l ↔ e ∈ m) : c = d := by
  have he : (fun x z => (x, z) ∈ l) = fun x z => (x, z) ∈ m := by
    funext x z
    exact propext (hm (x, z))
  exact rise_uniq h.one k.one h.rise k.rise (fun y => by rw [h.mem, k.mem, he])
/-- The greatest that stands in a circle, if there is one. -/
def VictP (l : List (Int × Int)) (n : Int) (b : Bool) : Prop := ∃ c, CircP l c ∧ ((c = [] ∧ n = 0 ∧ b = false) ∨ ∃ c0, c = c0 ++ [n] ∧ b = true)
set_option maxRecDepth 100000 in
set_option maxHeartbeats 2000000 in
theorem victim_any {w : World} {v : Value} {l : List (Int × Int)} (h : EIs w v l) (hr : ∀ e ∈ l, InR64 e.1 ∧ InR64 e.2) (hl : l.length ≤ 500) :
    Calls Try.prog 11 #[v] w fun e w' => ∃ n b, e = .returned (.tuple #[.int .i64 n, .bool b]) ∧ VictP l n b ∧ Below w.heap.size w w' := by
  have HC := Lib.hid (circles_any h hr hl)
  clear h
  go_enter Try.func11, Try.ntmps11
  go_wp2_with fail
  refine (HC.out).mono ?_
  rintro e w1 ⟨v1, c, rfl, hc, hv, ho, hb⟩
  have HCP := Lib.hid hc
  have HB := Lib.hid hb
  by_cases hn : c = []
  · subst hn
    obtain ⟨A, cap, e, _⟩ := hv.form
    subst e
    clear hv hc hb HC
    go_wp2_with fail
    refine bodyPost_ret (v := .tuple #[.int .i64 0, .bool false]) (by simp [results, Try.results11, go_sem]) rfl ?_
    exact ⟨0, false, rfl, ⟨[], HCP.out, .inl ⟨rfl, rfl, rfl⟩⟩, HB.out⟩
  · obtain ⟨g, cap, e, h1, h2, _, hcell⟩ := hv.cut hn
    subst e
    obtain ⟨k, hk⟩ : ∃ k, c.length = k + 1 := ⟨c.length - 1, by have := List.length_pos_iff.2 hn; omega⟩
    have hx : c[k]? = some (c.getLast hn) := by rw [List.getLast_eq_getElem, List.getElem?_eq_getElem (by omega)]; simp [hk]
    have hsp : c = c.dropLast ++ [c.getLast hn] := (List.dropLast_concat_getLast hn).symm
    have kc := hcell k _ hx
    have HSP := Lib.hid hsp
    generalize c.getLast hn = x at *
    rw [hk] at h1 ⊢
    unfold maxLen at h2
    have hkI : (k : Int) + 1 ≤ 9223372036854775807 := by omega
    have hk0 : ((k : Int) + 1 == 0) = false := by rw [beq_eq_false_iff_ne]; omega
    clear hv hc hb HC hcell hn hk hx hsp
    go_wp2_with fail
    refine bodyPost_ret (v := .tuple #[.int .i64 x, .bool true]) (by simp [results, Try.results11, go_sem]) rfl ?_
    exact ⟨x, true, rfl, ⟨c, HCP.out, .inr ⟨_, HSP.out, rfl⟩⟩, HB.out⟩
end Go.Proofs.Ytmpjimoefjcmhaa
