/- The reference's First. -/
import Derived.Test.YtoidfkcecggjfaaDoorZValQ
set_option linter.unusedSimpArgs false
set_option linter.unusedVariables false
set_option linter.unnecessarySimpa false
namespace Go.Proofs.YtoidfkcecggjfaaDoor
open Go.RowKit Go.Shelf

/-- No commit from s up to n wrote one of R. -/
def NoHit (A : List (List K)) (s n : Nat) (R : List K) : Prop := ∀ m ks, s ≤ m → m < n → A[m]? = some ks → meets ks R = false
theorem hit_at {A : List (List K)} {s n : Nat} {R ks : List K} (hs : s ≤ n) (h : NoHit A s n R) (hk : A[n]? = some ks) (hm : meets ks R = true) : hitP (A.drop s) R = some (n - s) := by
  unfold hitP
  rw [List.findIdx?_eq_some_iff_getElem]
  have hn := (List.getElem?_eq_some_iff.1 hk).1
  refine ⟨by rw [List.length_drop]; omega, ?_, fun j hj => ?_⟩
  · have : (A.drop s)[n - s]? = some ks := by rw [List.getElem?_drop, show s + (n - s) = n by omega]; exact hk
    rw [(List.getElem?_eq_some_iff.1 this).2]
    exact hm
  · have hj2 : s + j < A.length := by omega
    have := h (s + j) A[s + j] (by omega) (by omega) (List.getElem?_eq_getElem hj2)
    simpa [List.getElem_drop] using this
theorem hit_no {A : List (List K)} {s : Nat} {R : List K} (h : NoHit A s A.length R) : hitP (A.drop s) R = none := by
  rw [hit_none]
  intro ks hks
  obtain ⟨i, hi⟩ := List.getElem?_of_mem hks
  rw [List.getElem?_drop] at hi
  exact h (s + i) ks (by omega) (List.getElem?_eq_some_iff.1 hi).1 hi
/-- What First answers. -/
def rfirstP (A : List (List K)) (s : Nat) (R : List K) : Nat := match hitP (A.drop s) R with
  | none => 0
  | some i => s + i + 1
theorem no_step {A : List (List K)} {s n : Nat} {R ks : List K} (h : NoHit A s n R) (hk : A[n]? = some ks) (hm : meets ks R = false) : NoHit A s (n + 1) R := fun m ks' h1 h2 h3 => by
  rcases Nat.lt_or_eq_of_le (Nat.le_of_lt_succ h2) with h4 | rfl
  · exact h m ks' h1 h4 h3
  · rw [hk] at h3
    exact Option.some.inj h3 ▸ hm
/-- None of the first i keys is among R. -/
def NoKey (ks R : List K) (i : Nat) : Prop := ∀ p a, p < i → ks[p]? = some a → a ∉ R
theorem nokey_all {ks R : List K} (h : NoKey ks R ks.length) : meets ks R = false := by
  unfold meets
  rw [List.any_eq_false]
  intro k hk
  simp only [decide_eq_true_eq]
  intro hm
  obtain ⟨i, hi⟩ := List.getElem?_of_mem hm
  exact h i k (List.getElem?_eq_some_iff.1 hi).1 hi hk
theorem key_hit {ks R : List K} {a : K} (h1 : a ∈ ks) (h2 : a ∈ R) : meets ks R = true := by
  unfold meets
  rw [List.any_eq_true]
  exact ⟨a, h2, by simpa using h1⟩
theorem row_u {w : World} {A : Option Addr} {n c : Nat} {us : List Value} (h : RowIs w 1 (.slice A n c) n us) {i : Nat} {x : Value} (hx : us[i]? = some x) : ∃ g, A = some ⟨g, 0, none⟩ ∧ w.cell? ⟨g, i, none⟩ = some x := by
  obtain ⟨A', c', e, _, _, _, _, hj⟩ := RowIs.form h
  injection e with e1 _ _
  subst e1
  exact hj i x hx
set_option maxRecDepth 100000 in
set_option maxHeartbeats 20000000 in
theorem rfirst_any {w : World} {r F s : Nat} {u rv : Value} {us : List Value} {A : List (List K)} {R : List K} (hh : RAt w r u F us A) (hr : RowIs w 1 rv R.length (strs R)) (hs : s ≤ A.length) (hA : A.length ≤ 1000) :
    Calls Tryd.prog 19 #[.pointer (some ⟨r, 0, none⟩), .int .i64 s, rv] w fun e w' => e = .returned (.int .i64 (rfirstP A s R)) ∧ w' = w := by
  have HH0 := Lib.hid hh
  have HR := Lib.hid hr
  obtain ⟨Ar, cr, rfl, hr1, hr2, _⟩ := id hr.form
  obtain ⟨Au, cu, rfl, hu1, hu2, _⟩ := id hh.row.form
  unfold maxLen at hr2 hu2
  have k0 : w.cell? ⟨r, 0, none⟩ = some (.slice Au A.length cu) := cell_of hh.head 0
  have hA' : (A.length : Int) ≤ 1000 := by omega
  clear hh hr
  go_enter Tryd.func19, Tryd.ntmps19
  go_wp2_with fail
  go_loopw [7] (fun nv wr => ∃ n : Nat, nv = .int .i64 n ∧ s ≤ n ∧ n ≤ A.length ∧ NoHit A s n R ∧ wr = w) (fun nv _ => A.length - (intOf nv).toNat)
  case atStart => exact ⟨s, rfl, Nat.le_refl _, hs, (fun m ks h1 h2 h3 => by omega), rfl⟩
  case round =>
    obtain ⟨n, rfl, hsn, hn, hno, rfl⟩ := hrel
    by_cases hlt : n < A.length
    · have hx : A[n]? = some A[n] := List.getElem?_eq_getElem hlt
      generalize A[n] = ks at hx
      obtain ⟨x, hux, hrx, _⟩ := HH0.out.each n ks hx
      obtain ⟨g, rfl, kn⟩ := row_u HH0.out.row hux
      obtain ⟨Ax, cx, rfl, hx1, hx2, _⟩ := id hrx.form
      unfold maxLen at hx2
      have hi : (n : Int) < (A.length : Int) := by omega
      have HRX := Lib.hid hrx
      have HX := Lib.hid hx
      have HNO := Lib.hid hno
      have HSN := Lib.hid hsn
      have HLT := Lib.hid hlt
      clear hrx hux hno hx hsn hn hlt hs
      go_wp2_with fail
      obtain ⟨wo, rfl⟩ : ∃ wo, wo = wr := ⟨_, rfl⟩
      go_loopw [30] (fun av wr => ∃ i : Nat, av = .int .i64 i ∧ i ≤ ks.length ∧ NoKey ks R i ∧ wr = wo) (fun av _ => ks.length - (intOf av).toNat)
      case atStart => exact ⟨0, rfl, Nat.zero_le _, (fun p a h1 h2 => by omega), rfl⟩
      case round =>
        obtain ⟨i, rfl, hik, hnk, rfl⟩ := hrel
        by_cases hil : i < ks.length
        · have hxa : ks[i]? = some ks[i] := List.getElem?_eq_getElem hil
          generalize ks[i] = a at hxa
          obtain ⟨gx, cx2, ex, _, _, _, kxa⟩ := RowIs.str HRX.out hxa
          injection ex with e1 _ e3
          subst e1 e3
          have ka : wr.cell? ⟨gx, i, none⟩ = some (.string ⟨a.toArray⟩) := kxa
          have hi2 : (i : Int) < (ks.length : Int) := by omega
          have HXA := Lib.hid hxa
          have HIL := Lib.hid hil
          have HNK := Lib.hid hnk
          clear kxa hxa hil hnk hik
          go_wp2_with fail
          obtain ⟨wo, rfl⟩ : ∃ wo, wo = wr := ⟨_, rfl⟩
          go_loopw [36] (fun bv wr => ∃ q : Nat, bv = .int .i64 q ∧ q ≤ R.length ∧ (∀ p y, p < q → R[p]? = some y → y ≠ a) ∧ wr = wo) (fun bv _ => R.length - (intOf bv).toNat)
          case atStart => exact ⟨0, rfl, Nat.zero_le _, (fun p y h1 h2 => by omega), rfl⟩
          case round =>
            obtain ⟨q, rfl, hqr, hny, rfl⟩ := hrel
            by_cases hql : q < R.length
            · have hxb : R[q]? = some R[q] := List.getElem?_eq_getElem hql
              generalize R[q] = b at hxb
              obtain ⟨gy, cy2, ey, _, _, _, kyb⟩ := RowIs.str HR.out hxb
              injection ey with e1 _ e3
              subst e1 e3
              have kb : wr.cell? ⟨gy, q, none⟩ = some (.string ⟨b.toArray⟩) := kyb
              have hq2 : (q : Int) < (R.length : Int) := by omega
              have HXB := Lib.hid hxb
              have HQL := Lib.hid hql
              have HNY := Lib.hid hny
              clear kyb hxb hql hny hqr
              by_cases hab : a = b
              · have q1 : (a == b) = true := by simp [hab]
                have HF : Hid (rfirstP A s R = n + 1) := Lib.hid (by
                  have hm : meets ks R = true := key_hit (List.mem_of_getElem? HXA.out) (by rw [hab]; exact List.mem_of_getElem? HXB.out)
                  unfold rfirstP
                  rw [hit_at HSN.out HNO.out HX.out hm]
                  show s + (n - s) + 1 = n + 1
                  have := HSN.out
                  omega)
                clear hab
                go_wp2_with fail
                go_ret
                exact ⟨by rw [HF.out]; rfl, rfl⟩
              · have q1 : (a == b) = false := by simp [hab]
                have HAB := Lib.hid hab
                clear hab
                go_wp2_with fail
                go_roundw
                case rel =>
                  refine ⟨q + 1, by go_num, HQL.out, fun p y hp hy => ?_, trivial⟩
                  rcases Nat.lt_or_eq_of_le (Nat.le_of_lt_succ hp) with h4 | rfl
                  · exact HNY.out p y h4 hy
                  · rw [HXB.out] at hy
                    obtain rfl := Option.some.inj hy
                    exact fun e => HAB.out e.symm
                case measure => have := HQL.out; simp [intOf]; omega
            · obtain rfl : q = R.length := by omega
              have HK : Hid (NoKey ks R (i + 1)) := Lib.hid (fun p y hp hy => by
                rcases Nat.lt_or_eq_of_le (Nat.le_of_lt_succ hp) with h4 | rfl
                · exact HNK.out p y h4 hy
                · rw [HXA.out] at hy
                  obtain rfl := Option.some.inj hy
                  intro hm
                  obtain ⟨j, hj⟩ := List.getElem?_of_mem hm
                  exact hny j _ (List.getElem?_eq_some_iff.1 hj).1 hj rfl)
              clear hny hql hqr
              go_wp2_with fail
              go_roundw
              case rel => exact ⟨i + 1, by go_num, HIL.out, HK.out, trivial⟩
              case measure => have := HIL.out; simp [intOf]; omega
        · obtain rfl : i = ks.length := by omega
          have HN2 : Hid (NoHit A s (n + 1) R) := Lib.hid (no_step HNO.out HX.out (nokey_all hnk))
          clear hnk hil hik
          go_wp2_with fail
          go_roundw
          case rel => exact ⟨n + 1, by go_num, Nat.le_succ_of_le HSN.out, HLT.out, HN2.out, trivial⟩
          case measure => have := HLT.out; simp [intOf]; omega
    · obtain rfl : n = A.length := by omega
      have HZ : Hid (rfirstP A s R = 0) := Lib.hid (by unfold rfirstP; rw [hit_no hno])
      clear hno hlt hn hsn hs
      go_wp2_with fail
      go_ret
      exact ⟨by rw [HZ.out]; rfl, rfl⟩
end Go.Proofs.YtoidfkcecggjfaaDoor
