/- What the law asks of both behind each call. -/
import Derived.Test.YtoidfkcecggjfaaDoorZValV
set_option linter.unusedSimpArgs false
set_option linter.unusedVariables false
set_option linter.unnecessarySimpa false
namespace Go.Proofs.YtoidfkcecggjfaaDoor
open Go.RowKit Go.Shelf

theorem meets_nil (ks : List K) : meets ks [] = false := rfl
theorem hit_nil (C : List (List K)) : hitP C [] = none := by
  rw [hit_none]
  exact fun ks _ => meets_nil ks
/-- Who has read nothing is never stale. -/
theorem check_nothing {A : List (List K)} {F : Nat} {n : Nat} (hF : F ≤ A.length) (h1 : F ≤ n) (h2 : n ≤ A.length) : checkR F (A.drop F) n [] = 0 := by
  rw [rfirst_check hF (by omega) (by omega)]
  unfold rfirstP
  rw [hit_nil]
  rfl
section
variable {w0 w : World} {h r F : Nat} {A : List (List K)}
theorem BothV.now (b : BothV w0 w h r F A) : Calls Tryd.prog 8 #[.pointer (some ⟨h, 0, none⟩)] w fun e w' => e = .returned (.int .i64 A.length) ∧ BothV w0 w' h r F A := by
  obtain ⟨v, vs, u, us, b⟩ := b
  refine (now_any b.hh.toHistAt b.hh.few).mono ?_
  rintro e w' ⟨rfl, rfl⟩
  have hF := b.hF
  refine ⟨?_, v, vs, u, us, b.keep (below_drewN (Below.refl _ _) 1)⟩
  rw [List.length_drop, show ((F : Int) + ((A.length - F : Nat) : Int)) = (A.length : Int) by omega]
theorem BothV.floor (b : BothV w0 w h r F A) : Calls Tryd.prog 9 #[.pointer (some ⟨h, 0, none⟩)] w fun e w' => e = .returned (.int .i64 F) ∧ w' = w := by
  obtain ⟨v, vs, u, us, b⟩ := b
  exact floor_any b.hh.toHistAt
theorem BothV.check {rv : Value} {R : List K} {since : Int} (b : BothV w0 w h r F A) (hk : RowIs w 1 rv R.length (strs R)) (hl : R.length ≤ 1000000) :
    Calls Tryd.prog 10 #[.pointer (some ⟨h, 0, none⟩), .int .i64 since, rv] w fun e w' => e = .returned (.int .i64 (checkR F (A.drop F) since R)) ∧ BothV w0 w' h r F A ∧ Below w.heap.size w w' := by
  obtain ⟨v, vs, u, us, b⟩ := b
  refine (Check_any b.hh hk hl).mono ?_
  rintro e w' ⟨rfl, hb⟩
  exact ⟨rfl, ⟨v, vs, u, us, b.keep hb⟩, hb⟩
theorem BothV.first {rv : Value} {R : List K} {since : Int} (b : BothV w0 w h r F A) (hk : RowIs w 1 rv R.length (strs R)) (hl : R.length ≤ 1000000) :
    Calls Tryd.prog 14 #[.pointer (some ⟨h, 0, none⟩), .int .i64 since, rv] w fun e w' => e = .returned (.tuple #[.int .i64 (firstR F (A.drop F) since R).1, .bool (decide (0 < (firstR F (A.drop F) since R).1))]) ∧ BothV w0 w' h r F A ∧ Below w.heap.size w w' := by
  obtain ⟨v, vs, u, us, b⟩ := b
  refine (First_any b.hh hk hl).mono ?_
  rintro e w' ⟨rfl, hb⟩
  exact ⟨rfl, ⟨v, vs, u, us, b.keep hb⟩, hb⟩
theorem BothV.rcheck {rv : Value} {R : List K} {since : Int} (b : BothV w0 w h r F A) (hk : RowIs w 1 rv R.length (strs R)) (hA : A.length ≤ 1000) :
    Calls Tryd.prog 18 #[.pointer (some ⟨r, 0, none⟩), .int .i64 since, rv] w fun e w' => e = .returned (.int .i64 (checkR F (A.drop F) since R)) ∧ w' = w := by
  obtain ⟨v, vs, u, us, b⟩ := b
  exact rcheck_any b.ra hk b.hF hA
theorem BothV.nothing {n : Nat} (b : BothV w0 w h r F A) (h1 : F ≤ n) (h2 : n ≤ A.length) :
    Calls Tryd.prog 10 #[.pointer (some ⟨h, 0, none⟩), .int .i64 n, .slice none 0 0] w fun e w' => e = .returned (.int .i64 0) ∧ BothV w0 w' h r F A := by
  have hF : F ≤ A.length := by omega
  refine (b.check (R := []) (since := (n : Nat)) (RowIs.nil w 1) (by simp)).mono ?_
  rintro e w' ⟨rfl, hb, _⟩
  exact ⟨by rw [check_nothing hF h1 h2], hb⟩
/-- Forget of the history, then of the reference. -/
theorem BothV.forget {lo : Int} (b : BothV w0 w h r F A) (hlo : lo ≤ 9223372036854775807) (hA : A.length ≤ 1000) :
    Calls Tryd.prog 15 #[.pointer (some ⟨h, 0, none⟩), .int .i64 lo] w fun e w1 => e = .returned (.int .i64 (forgetN F (A.length - F) lo)) ∧
      Calls Tryd.prog 20 #[.pointer (some ⟨r, 0, none⟩), .int .i64 lo] w1 fun e2 w2 => e2 = .returned (.int .i64 (forgetN F (A.length - F) lo)) ∧ BothV w0 w2 h r (F + forgetN F (A.length - F) lo) A := by
  obtain ⟨v, vs, u, us, b⟩ := b
  have hF := b.hF
  refine (Forget_any b.hh hlo).mono ?_
  rintro e w1 ⟨rfl, v', h1, ht, h3⟩
  rw [List.length_drop] at h1
  rw [List.drop_drop] at h1
  refine ⟨by rw [List.length_drop], (rforget_any (b.refs ht) hF hA).mono ?_⟩
  rintro e w2 ⟨rfl, r2, t2⟩
  refine ⟨rfl, v', _, u, us, b.step h1 ht (fun k e => .inl (h3 ▸ e)) (fun x hx k e => .inl ⟨x, List.mem_of_mem_drop hx, e⟩) r2 t2 (fun k e => .inl e) (fun x hx => .inl hx) ?_⟩
  have := forgetN_le F (A.length - F) lo
  omega
end
end Go.Proofs.YtoidfkcecggjfaaDoor
