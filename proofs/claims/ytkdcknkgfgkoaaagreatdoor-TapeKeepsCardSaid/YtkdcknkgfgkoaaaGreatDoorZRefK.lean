/- The reference's tape: Do in plain words. -/
import Derived.Test.YtkdcknkgfgkoaaaGreatDoorZRefJ
set_option linter.unusedSimpArgs false
set_option linter.unusedVariables false
set_option linter.unnecessarySimpa false
namespace Go.Proofs.YtkdcknkgfgkoaaaGreatDoor
open Go.RowKit

section
variable {w : World} {r : Nat} {R : RTp}
theorem rdo_cases (R : RTp) (seg : Int) : nameP seg = false ∨ (nameP seg = true ∧ R.down = true) ∨ (nameP seg = true ∧ R.down = false ∧ ∀ x ∈ R.L, x.n ≠ seg) ∨ (nameP seg = true ∧ R.down = false ∧ ∃ (j : Nat) (x : RSeg), R.L[j]? = some x ∧ x.n = seg) := by
  cases h1 : nameP seg with
  | false => exact .inl rfl
  | true =>
    cases h2 : R.down with
    | true => exact .inr (.inl ⟨rfl, rfl⟩)
    | false =>
      by_cases hx : ∃ x ∈ R.L, x.n = seg
      · obtain ⟨x, hx, hn⟩ := hx
        obtain ⟨j, hj⟩ := List.getElem?_of_mem hx
        exact .inr (.inr (.inr ⟨rfl, rfl, j, x, hj, hn⟩))
      · exact .inr (.inr (.inl ⟨rfl, rfl, fun x h1 h2 => hx ⟨x, h1, h2⟩⟩))
theorem rdo1 (h : RefOk w r R) (seg n : Int) (b : List UInt8) (bv : Value) : Calls Tryz.prog 23 #[.pointer (some ⟨r, 0, none⟩), .int .i64 1, .int .i64 seg, .int .i64 n, bv] w fun e w' => e = .returned (.int .i64 (doP (plR R) 1 seg n b).1) ∧ DoP w r R (doP (plR R) 1 seg n b).2 w' := by
  rcases rdo_cases R seg with h1 | ⟨h1, h2⟩ | ⟨h1, h2, h3⟩ | ⟨h1, h2, j, x, hj, rfl⟩
  · rw [doP_name _ h1]
    exact (rdo_name h1).mono fun e w' k => ⟨k.1, by rw [← k.2]; exact .same h (Below.refl _ _)⟩
  · rw [doP_down _ h1 h2]
    exact (rdo_down h h1 h2).mono fun e w' k => ⟨k.1, by rw [← k.2]; exact .same h (Below.refl _ _)⟩
  · rw [doP_none h1 h2 (h.miss h3) (by decide)]
    exact (rdo_none h h1 h2 (.inl rfl) h3).mono fun e w' k => ⟨k.1, .same h k.2⟩
  · exact rdo_sync h hj h1 h2
theorem rdo3 (h : RefOk w r R) (seg n : Int) (b : List UInt8) (bv : Value) : Calls Tryz.prog 23 #[.pointer (some ⟨r, 0, none⟩), .int .i64 3, .int .i64 seg, .int .i64 n, bv] w fun e w' => e = .returned (.int .i64 (doP (plR R) 3 seg n b).1) ∧ DoP w r R (doP (plR R) 3 seg n b).2 w' := by
  rcases rdo_cases R seg with h1 | ⟨h1, h2⟩ | ⟨h1, h2, h3⟩ | ⟨h1, h2, j, x, hj, rfl⟩
  · rw [doP_name _ h1]
    exact (rdo_name h1).mono fun e w' k => ⟨k.1, by rw [← k.2]; exact .same h (Below.refl _ _)⟩
  · rw [doP_down _ h1 h2]
    exact (rdo_down h h1 h2).mono fun e w' k => ⟨k.1, by rw [← k.2]; exact .same h (Below.refl _ _)⟩
  · rw [doP_none h1 h2 (h.miss h3) (by decide)]
    exact (rdo_none h h1 h2 (.inr (.inr rfl)) h3).mono fun e w' k => ⟨k.1, .same h k.2⟩
  · exact rdo_drop h hj h1 h2
theorem rdo2 (h : RefOk w r R) (seg n : Int) (b : List UInt8) (bv : Value) : Calls Tryz.prog 23 #[.pointer (some ⟨r, 0, none⟩), .int .i64 2, .int .i64 seg, .int .i64 n, bv] w fun e w' => e = .returned (.int .i64 (doP (plR R) 2 seg n b).1) ∧ DoP w r R (doP (plR R) 2 seg n b).2 w' := by
  rcases rdo_cases R seg with h1 | ⟨h1, h2⟩ | ⟨h1, h2, h3⟩ | ⟨h1, h2, j, x, hj, rfl⟩
  · rw [doP_name _ h1]
    exact (rdo_name h1).mono fun e w' k => ⟨k.1, by rw [← k.2]; exact .same h (Below.refl _ _)⟩
  · rw [doP_down _ h1 h2]
    exact (rdo_down h h1 h2).mono fun e w' k => ⟨k.1, by rw [← k.2]; exact .same h (Below.refl _ _)⟩
  · rw [doP_none h1 h2 (h.miss h3) (by decide)]
    exact (rdo_none h h1 h2 (.inr (.inl rfl)) h3).mono fun e w' k => ⟨k.1, .same h k.2⟩
  · by_cases hn : n < 0 ∨ (x.b.length : Int) < n
    · rw [doP_arg (y := (x.b, x.s)) h1 h2 (h.lookP hj) hn]
      exact (rdo_arg (b := b) h hj h1 h2 hn).mono fun e w' k => ⟨k.1, .same h k.2⟩
    · obtain ⟨m, rfl⟩ := Int.eq_ofNat_of_zero_le (show 0 ≤ n by omega)
      exact rdo_trim h hj h1 h2 (by omega)
theorem rdo0 (h : RefOk w r R) (seg n : Int) {b : List UInt8} {bv : Value} (hb : BIs w bv b) (hbr : b ≠ [] → ∀ A n c, bv = .slice (some A) n c → A.block ≠ r) : Calls Tryz.prog 23 #[.pointer (some ⟨r, 0, none⟩), .int .i64 0, .int .i64 seg, .int .i64 n, bv] w fun e w' => e = .returned (.int .i64 (doP (plR R) 0 seg n b).1) ∧ DoP w r R (doP (plR R) 0 seg n b).2 w' := by
  have hsz : sizeS (plR R).A = rused R.L := absR_size R.L
  have hln : (plR R).A.length = R.L.length := by show (absR R.L).length = _; unfold absR; rw [List.length_map]
  cases h1 : nameP seg with
  | false =>
    rw [doP_name _ h1]
    exact (rdo_name h1).mono fun e w' k => ⟨k.1, by rw [← k.2]; exact .same h (Below.refl _ _)⟩
  | true =>
    cases h2 : R.down with
    | true =>
      rw [doP_down _ h1 h2]
      exact (rdo_down h h1 h2).mono fun e w' k => ⟨k.1, by rw [← k.2]; exact .same h (Below.refl _ _)⟩
    | false =>
      by_cases hfull : R.room.toNat - rused R.L < b.length ∨ (∀ x ∈ R.L, x.n ≠ seg) ∧ 64 ≤ R.L.length
      · rw [doP_full h1 h2 (by rw [hsz, hln]; exact hfull.imp_right fun k => ⟨h.miss k.1, k.2⟩)]
        obtain ⟨Ab, cb, rfl, _⟩ := hb
        exact (rdo_full h h1 h2 hfull).mono fun e w' k => ⟨k.1, .same h k.2⟩
      · have hroom : b.length ≤ R.room.toNat - rused R.L := Nat.le_of_not_lt fun k => hfull (.inl k)
        by_cases hx : ∃ x ∈ R.L, x.n = seg
        · obtain ⟨x, hx, rfl⟩ := hx
          obtain ⟨j, hj⟩ := List.getElem?_of_mem hx
          exact rdo_app_hit h hb hbr hj h1 h2 hroom
        · have hm : ∀ x ∈ R.L, x.n ≠ seg := fun x h1 h2 => hx ⟨x, h1, h2⟩
          exact rdo_app_miss h hb hbr hm h1 h2 (Nat.lt_of_not_le fun k => hfull (.inr ⟨hm, k⟩)) hroom
end
end Go.Proofs.YtkdcknkgfgkoaaaGreatDoor
