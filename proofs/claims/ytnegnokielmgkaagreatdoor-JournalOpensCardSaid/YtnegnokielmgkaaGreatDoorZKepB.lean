/- The tape's changes in plain words: Append, Sync, Trim, Drop answer and leave what the plain list says. The tape's changes in plain words: Trim, Append. -/
import Derived.Test.YtnegnokielmgkaaGreatDoorZKepA
import Derived.Test.YtnegnokielmgkaaGreatDoorZTapK
import Derived.Test.YtnegnokielmgkaaGreatDoorZTapV
import Derived.Test.YtnegnokielmgkaaGreatDoorZTapO
import Derived.Test.YtnegnokielmgkaaGreatDoorZTap2
set_option linter.unusedSimpArgs false
set_option linter.unusedVariables false
set_option linter.unnecessarySimpa false
namespace Go.Proofs.YtnegnokielmgkaaGreatDoor
open Go.RowKit

theorem erase_map' {α β : Type} (f : α → β) (l : List α) (j : Nat) : (l.eraseIdx j).map f = (l.map f).eraseIdx j := by
  induction l generalizing j with
  | nil => rfl
  | cons x l ih => cases j <;> simp [*]
def fuseT (T : Tp) : Int := if T.fused then (T.left : Int) else -1
def plT (T : Tp) : Pl := ⟨T.room, abs T.L, fuseT T, T.down⟩
theorem nameB_P (n : Int) : nameB n = nameP n := by
  rw [Bool.eq_iff_iff, nameB_iff]
  unfold nameP
  rw [Bool.and_eq_true, decide_eq_true_iff, decide_eq_true_iff]
theorem abs_at {L : List Ent} {j : Nat} {e : Ent} (h : L[j]? = some e) : (abs L)[j]? = some (e.n, e.b, e.s) := by unfold abs; rw [List.getElem?_map, h]; rfl
theorem abs_miss {L : List Ent} {n : Int} (h : ∀ e ∈ L, e.n ≠ n) : lookS (abs L) n = none := lookS_none fun x hx => by
  obtain ⟨e, he, rfl⟩ := List.mem_map.1 hx
  exact h e he
theorem sizeS_abs (L : List Ent) : sizeS (abs L) = used L := by unfold sizeS abs used; rw [List.map_map]; rfl
theorem abs_len (L : List Ent) : (abs L).length = L.length := by unfold abs; rw [List.length_map]
section
variable {w : World} {t : Nat} {T : Tp}
theorem TapeAt.nums (h : TapeAt w t T) : (numsOf (abs T.L)).Nodup := by
  have := h.nodup
  unfold numsOf abs
  rw [List.map_map]
  exact this
theorem TapeAt.lookAt (h : TapeAt w t T) {j : Nat} {e : Ent} (hj : T.L[j]? = some e) : lookS (abs T.L) e.n = some (e.b, e.s) := lookS_of_mem h.nums (List.mem_of_getElem? (abs_at hj))
theorem spent_yes : spent T = true ↔ fuseT T = 0 := by
  unfold spent fuseT
  cases T.fused <;> simp <;> omega
theorem spent_no : spent T = false ↔ fuseT T ≠ 0 := by
  rw [← Bool.not_eq_true, spent_yes]
theorem plT_burnt (h : fuseT T ≠ 0) : plT (burnt T) = burnP (plT T) := by
  unfold plT burnt burnP fuseT at *
  cases hf : T.fused with
  | false => simp [hf]
  | true =>
    rw [hf] at h
    simp only [if_true] at h ⊢
    rw [if_pos (by omega)]
    congr 1
    omega
theorem plT_down : plT { T with down := true } = { plT T with down := true } := rfl
/-- What a change leaves. -/
def TDoP (w : World) (t : Nat) (T : Tp) (q : Pl) (w' : World) : Prop := ∃ T', TapeAt w' t T' ∧ (plT T').Eq q ∧ Touch (fun k => k ∈ T.blocks t) w w' ∧ ∀ k ∈ T'.blocks t, k ∈ T.blocks t ∨ w.heap.size ≤ k
theorem t_mem : t ∈ T.blocks t := List.mem_cons_self ..
theorem TDoP.same {w' : World} (h : TapeAt w t T) (hb : Below w.heap.size w w') : TDoP w t T (plT T) w' := ⟨T, h.below hb, .refl _, .of_below hb, fun k hk => .inl hk⟩
theorem TDoP.dead {w' : World} (h : TapeAt w' t { T with down := true }) (ht : Touch (· = t) w w') : TDoP w t T { plT T with down := true } w' :=
  ⟨_, h, .refl _, ht.mono (fun i _ hi => by subst hi; exact t_mem), fun k hk => .inl hk⟩
theorem readyE_P (seg : Int) : readyE T seg = if nameP seg = false then 2 else if (plT T).down then 8 else 0 := by unfold readyE; rw [nameB_P]; rfl
theorem readyE_ok {seg : Int} (h : nameP seg = true) (hd : T.down = false) : readyE T seg = 0 := by rw [readyE_P, if_neg (by rw [h]; decide), if_neg (by show ¬ T.down = true; rw [hd]; decide)]
/-- The three ways ahead of a change: the number, the power, the segment. -/
theorem tdo_cases (seg : Int) : nameP seg = false ∨ (nameP seg = true ∧ T.down = true) ∨ (nameP seg = true ∧ T.down = false ∧ ∀ e ∈ T.L, e.n ≠ seg) ∨ (nameP seg = true ∧ T.down = false ∧ ∃ (j : Nat) (e : Ent), T.L[j]? = some e ∧ e.n = seg) := by
  cases h1 : nameP seg with
  | false => exact .inl rfl
  | true =>
    cases h2 : T.down with
    | true => exact .inr (.inl ⟨rfl, rfl⟩)
    | false =>
      rcases seg_cases T.L seg with h | h
      · exact .inr (.inr (.inr ⟨rfl, rfl, h⟩))
      · exact .inr (.inr (.inl ⟨rfl, rfl, h⟩))
theorem set_eq (h : TapeAt w t T) {j : Nat} {e e' : Ent} (hj : T.L[j]? = some e) (hn : e'.n = e.n) : (abs (T.L.set j e')).Perm (putS (abs T.L) (e.n, e'.b, e'.s)) := by
  have h1 : abs (T.L.set j e') = (abs T.L).set j (e.n, e'.b, e'.s) := by unfold abs; rw [map_set']; rw [hn]
  rw [h1]
  exact set_perm h.nums (abs_at hj)
theorem erase_eq (h : TapeAt w t T) {j : Nat} {e : Ent} (hj : T.L[j]? = some e) : abs (T.L.eraseIdx j) = dropS (abs T.L) e.n := by
  have h1 : abs (T.L.eraseIdx j) = (abs T.L).eraseIdx j := by unfold abs; exact erase_map' _ _ _
  rw [h1]
  exact erase_perm h.nums (abs_at hj)
theorem plT_eq {T' : Tp} {A : List Sg} (h : fuseT T ≠ 0) (hr : T'.room = (burnt T).room) (hf : T'.fused = (burnt T).fused) (hl : T'.left = (burnt T).left) (hd : T'.down = (burnt T).down) (hA : (abs T'.L).Perm A) : (plT T').Eq { burnP (plT T) with A := A } := by
  rw [← plT_burnt h]
  exact ⟨hr, hA, by show fuseT T' = fuseT (burnt T); unfold fuseT; rw [hf, hl], hd⟩

theorem tsync (hG : Glob w) (h : TapeAt w t T) (hg : 0 ∉ T.blocks t) (seg n : Int) (b : List UInt8) : Calls Tryz.prog 44 #[.pointer (some ⟨t, 0, none⟩), .int .i64 seg] w fun e w' => e = .returned (.int .i64 (doP (plT T) 1 seg n b).1) ∧ TDoP w t T (doP (plT T) 1 seg n b).2 w' := by
  rcases tdo_cases (T := T) seg with h1 | ⟨h1, h2⟩ | ⟨h1, h2, h3⟩ | ⟨h1, h2, j, e, hj, rfl⟩
  · rw [doP_name _ h1]
    have hE : readyE T seg = 2 := by rw [readyE_P, if_pos h1]
    exact (sync_err (E := 2) hG (by decide) (by have := open_no h (seg := seg) (by rw [hE]; decide); rw [hE] at this; exact this)).mono fun e w' k => ⟨k.1, .same h k.2⟩
  · rw [doP_down _ h1 h2]
    have hE : readyE T seg = 8 := by rw [readyE_P, if_neg (by rw [h1]; decide), if_pos (show (plT T).down = true from h2)]
    exact (sync_err (E := 8) hG (by decide) (by have := open_no h (seg := seg) (by rw [hE]; decide); rw [hE] at this; exact this)).mono fun e w' k => ⟨k.1, .same h k.2⟩
  · rw [doP_none h1 h2 (abs_miss h3) (by decide)]
    exact (sync_err (E := 3) hG (by decide) (open_miss h (readyE_ok h1 h2) h3)).mono fun e w' k => ⟨k.1, .same h k.2⟩
  · have hl := h.lookAt hj
    have hF : Fine (plT T) 1 e.n n b := ⟨h1, h2, (fun _ => by show lookS (abs T.L) _ ≠ _; rw [hl]; exact Option.some_ne_none _), (fun c => by cases c), (fun c => by cases c)⟩
    by_cases hf : fuseT T = 0
    · rw [doP_dead hF hf]
      exact (sync_dead hG h (readyE_ok h1 h2) hj rfl (spent_yes.2 hf) hg).mono fun e w' k => ⟨k.1, .dead k.2.1 k.2.2⟩
    · rw [doP_sync hF hf hl]
      exact (sync_ok hG h (readyE_ok h1 h2) hj rfl (spent_no.2 hf) hg).mono fun x w' k => ⟨k.1, _, k.2.1, plT_eq hf rfl rfl rfl rfl (set_eq h hj rfl), k.2.2, fun i hi => .inl (by
        rcases mem_blocks.1 hi with hi | hi | ⟨y, hy, hi⟩
        · exact mem_blocks.2 (.inl hi)
        · exact mem_blocks.2 (.inr (.inl (by rw [← hi]; unfold syncT burnt; split <;> rfl)))
        · have hy' : y ∈ T.L.set j { e with s := e.b.length } := hy
          rcases List.mem_or_eq_of_mem_set hy' with hy | rfl
          · exact mem_blocks.2 (.inr (.inr ⟨y, hy, hi⟩))
          · exact mem_blocks.2 (.inr (.inr ⟨e, List.mem_of_getElem? hj, hi⟩)))⟩
theorem tdrop (hG : Glob w) (h : TapeAt w t T) (hg : 0 ∉ T.blocks t) (seg n : Int) (b : List UInt8) : Calls Tryz.prog 46 #[.pointer (some ⟨t, 0, none⟩), .int .i64 seg] w fun e w' => e = .returned (.int .i64 (doP (plT T) 3 seg n b).1) ∧ TDoP w t T (doP (plT T) 3 seg n b).2 w' := by
  have hD := h.below (dropW_below w (some ⟨t, 0, none⟩) seg)
  rcases tdo_cases (T := T) seg with h1 | ⟨h1, h2⟩ | ⟨h1, h2, h3⟩ | ⟨h1, h2, j, e, hj, rfl⟩
  · rw [doP_name _ h1]
    have hE : readyE T seg = 2 := by rw [readyE_P, if_pos h1]
    exact (drop_err (E := 2) hG (by decide) (by have := open_no hD (seg := seg) (by rw [hE]; decide); rw [hE] at this; exact this)).mono fun e w' k => ⟨k.1, .same h k.2⟩
  · rw [doP_down _ h1 h2]
    have hE : readyE T seg = 8 := by rw [readyE_P, if_neg (by rw [h1]; decide), if_pos (show (plT T).down = true from h2)]
    exact (drop_err (E := 8) hG (by decide) (by have := open_no hD (seg := seg) (by rw [hE]; decide); rw [hE] at this; exact this)).mono fun e w' k => ⟨k.1, .same h k.2⟩
  · rw [doP_none h1 h2 (abs_miss h3) (by decide)]
    exact (drop_err (E := 3) hG (by decide) (open_miss hD (readyE_ok h1 h2) h3)).mono fun e w' k => ⟨k.1, .same h k.2⟩
  · have hl := h.lookAt hj
    have hF : Fine (plT T) 3 e.n n b := ⟨h1, h2, (fun _ => by show lookS (abs T.L) _ ≠ _; rw [hl]; exact Option.some_ne_none _), (fun c => by cases c), (fun c => by cases c)⟩
    by_cases hf : fuseT T = 0
    · rw [doP_dead hF hf]
      exact (drop_dead hG h (readyE_ok h1 h2) hj rfl (spent_yes.2 hf) hg).mono fun e w' k => ⟨k.1, .dead k.2.1 k.2.2⟩
    · rw [doP_drop hF hf]
      exact (drop_ok hG h (readyE_ok h1 h2) hj rfl (spent_no.2 hf) hg).mono fun x w' k => ⟨k.1, _, k.2.1, plT_eq hf rfl rfl rfl rfl (by show (abs (T.L.eraseIdx j)).Perm _; rw [erase_eq h hj]; exact List.Perm.refl _), k.2.2, fun i hi => .inl (by
        rcases mem_blocks.1 hi with hi | hi | ⟨y, hy, hi⟩
        · exact mem_blocks.2 (.inl hi)
        · exact mem_blocks.2 (.inr (.inl (by rw [← hi]; unfold dropT burnt; split <;> rfl)))
        · exact mem_blocks.2 (.inr (.inr ⟨y, (List.eraseIdx_sublist T.L j).subset hy, hi⟩)))⟩
end
end Go.Proofs.YtnegnokielmgkaaGreatDoor

namespace Go.Proofs.YtnegnokielmgkaaGreatDoor
open Go.RowKit

section
variable {w : World} {t : Nat} {T : Tp}
theorem burnt_m (T : Tp) : (burnt T).m = T.m := by unfold burnt; split <;> rfl
theorem ttrim (hG : Glob w) (h : TapeAt w t T) (hg : 0 ∉ T.blocks t) (seg n : Int) (b : List UInt8) : Calls Tryz.prog 45 #[.pointer (some ⟨t, 0, none⟩), .int .i64 seg, .int .i64 n] w fun e w' => e = .returned (.int .i64 (doP (plT T) 2 seg n b).1) ∧ TDoP w t T (doP (plT T) 2 seg n b).2 w' := by
  have hD := h.below (below_new (w := w) (.cells #[.int .i64 n] 3))
  rcases tdo_cases (T := T) seg with h1 | ⟨h1, h2⟩ | ⟨h1, h2, h3⟩ | ⟨h1, h2, j, e, hj, rfl⟩
  · rw [doP_name _ h1]
    have hE : readyE T seg = 2 := by rw [readyE_P, if_pos h1]
    exact (trim_err (E := 2) hG (by decide) (by have := open_no hD (seg := seg) (by rw [hE]; decide); rw [hE] at this; exact this)).mono fun e w' k => ⟨k.1, .same h k.2⟩
  · rw [doP_down _ h1 h2]
    have hE : readyE T seg = 8 := by rw [readyE_P, if_neg (by rw [h1]; decide), if_pos (show (plT T).down = true from h2)]
    exact (trim_err (E := 8) hG (by decide) (by have := open_no hD (seg := seg) (by rw [hE]; decide); rw [hE] at this; exact this)).mono fun e w' k => ⟨k.1, .same h k.2⟩
  · rw [doP_none h1 h2 (abs_miss h3) (by decide)]
    exact (trim_err (E := 3) hG (by decide) (open_miss hD (readyE_ok h1 h2) h3)).mono fun e w' k => ⟨k.1, .same h k.2⟩
  · have hl := h.lookAt hj
    by_cases hn : n < 0 ∨ (e.b.length : Int) < n
    · rw [doP_arg (y := (e.b, e.s)) h1 h2 hl hn]
      exact (trim_arg hG h (readyE_ok h1 h2) hj rfl hn).mono fun x w' k => ⟨k.1, .same h k.2⟩
    · obtain ⟨m, rfl⟩ := Int.eq_ofNat_of_zero_le (show 0 ≤ n by omega)
      have hm : m ≤ e.b.length := by omega
      have hF : Fine (plT T) 2 e.n (m : Int) b := ⟨h1, h2, (fun _ => by show lookS (abs T.L) _ ≠ _; rw [hl]; exact Option.some_ne_none _), (fun c => by cases c), (fun _ => by
        show 0 ≤ (m : Int) ∧ (m : Int) ≤ ((((lookS (abs T.L) e.n).getD ([], 0)).1.length : Nat) : Int)
        rw [hl]
        show 0 ≤ (m : Int) ∧ (m : Int) ≤ ((e.b.length : Nat) : Int)
        omega)⟩
      by_cases hf : fuseT T = 0
      · rw [doP_dead hF hf]
        exact (trim_dead hG h (readyE_ok h1 h2) hj rfl hm (spent_yes.2 hf) hg).mono fun e w' k => ⟨k.1, .dead k.2.1 k.2.2⟩
      · rw [doP_trim hF hf hl]
        refine (trim_ok hG h (readyE_ok h1 h2) hj rfl hm (spent_no.2 hf) hg).mono ?_
        rintro x w' ⟨rfl, v', k1, k2, k3⟩
        refine ⟨rfl, _, k1, plT_eq hf rfl rfl rfl rfl (set_eq (e' := { e with v := v', b := e.b.take m, s := min e.s m }) h hj rfl), k3, fun i hi => .inl ?_⟩
        rcases mem_blocks.1 hi with hi | hi | ⟨y, hy, hi⟩
        · exact mem_blocks.2 (.inl hi)
        · exact mem_blocks.2 (.inr (.inl (by rw [← hi]; exact (burnt_m T).symm)))
        · have hy' : y ∈ T.L.set j { e with v := v', b := e.b.take m, s := min e.s m } := hy
          rcases List.mem_or_eq_of_mem_set hy' with hy | rfl
          · exact mem_blocks.2 (.inr (.inr ⟨y, hy, hi⟩))
          · refine mem_blocks.2 (.inr (.inr ⟨e, List.mem_of_getElem? hj, ?_⟩))
            unfold Ent.blocks at *
            rw [← k2]
            exact hi
theorem tappend (hG : Glob w) (h : TapeAt w t T) (hg : 0 ∉ T.blocks t) (seg n : Int) {A : Option Addr} {m c : Nat} {ls : List (List UInt8)} (hl : ls.flatten.length ≤ 1073741824) (hP : ∀ w', Touch (fun k => k ∈ T.blocks t) w w' → PIs w' (.slice A m c) ls) :
    Calls Tryz.prog 22 #[.pointer (some ⟨t, 0, none⟩), .int .i64 seg, .slice A m c] w fun e w' => e = .returned (.int .i64 (doP (plT T) 0 seg n ls.flatten).1) ∧ TDoP w t T (doP (plT T) 0 seg n ls.flatten).2 w' := by
  have hD := h.below (appW_below w (some ⟨t, 0, none⟩) seg (.slice A m c))
  have hPb : ∀ W, Below w.heap.size w W → PIs W (.slice A m c) ls := fun W hW => hP W (.of_below hW)
  have err : ∀ E, E ≠ 0 → readyE T seg = E → Calls Tryz.prog 22 #[.pointer (some ⟨t, 0, none⟩), .int .i64 seg, .slice A m c] w fun e w' => e = .returned (.int .i64 E) ∧ Below w.heap.size w w' := fun E hE hR =>
    append_err hG hE (by have := ready_any hD seg; rw [hR] at this; exact this)
  cases h1 : nameP seg with
  | false =>
    rw [doP_name _ h1]
    exact (err 2 (by decide) (by rw [readyE_P, if_pos h1])).mono fun e w' k => ⟨k.1, .same h k.2⟩
  | true =>
    cases h2 : T.down with
    | true =>
      rw [doP_down _ h1 h2]
      exact (err 8 (by decide) (by rw [readyE_P, if_neg (by rw [h1]; decide), if_pos (show (plT T).down = true from h2)])).mono fun e w' k => ⟨k.1, .same h k.2⟩
    | false =>
      have hE := readyE_ok h1 h2
      have hnb : nameB seg = true := by rw [nameB_P]; exact h1
      have hsz : sizeS (plT T).A = used T.L := sizeS_abs T.L
      have hln : (plT T).A.length = T.L.length := abs_len T.L
      by_cases hfull : T.room - used T.L < ls.flatten.length ∨ lookS (abs T.L) seg = none ∧ 64 ≤ T.L.length
      · rw [doP_full h1 h2 (by rw [hsz, hln]; exact hfull)]
        refine (append_full hG h hE fun W hW => ?_).mono fun e w' k => ⟨k.1, .same h k.2⟩
        by_cases hr : T.room - used T.L < ls.flatten.length
        · exact fits_full (h.below hW) (hPb W hW) hl hr
        · obtain ⟨q1, q2⟩ := hfull.elim (fun e => absurd e hr) id
          refine fits_many (h.below hW) (hPb W hW) hl (by omega) hnb (fun e he hn => ?_) q2
          obtain ⟨j, hj⟩ := List.getElem?_of_mem he
          rw [← hn, h.lookAt hj] at q1
          cases q1
      · have hr : ls.flatten.length ≤ T.room - used T.L := by omega
        have hF : Fine (plT T) 0 seg n ls.flatten := ⟨h1, h2, (fun c => absurd rfl c), (fun _ => ⟨by rw [hsz]; exact hr, fun e => by rw [hln]; exact Nat.lt_of_not_le fun c => hfull (.inr ⟨e, c⟩)⟩), (fun c => by cases c)⟩
        have hfits : ∀ W, Below w.heap.size w W → Calls Tryz.prog 58 #[.pointer (some ⟨t, 0, none⟩), .int .i64 seg, .slice A m c] W fun e w' => ∃ v, e = .returned v ∧ ErrP 0 W v w' := fun W hW => by
          rcases seg_cases T.L seg with ⟨j, e, hj, he⟩ | hm
          · exact fits_hit (h.below hW) (hPb W hW) hl hr hnb hj he
          · exact fits_few (h.below hW) (hPb W hW) hl hr (Nat.lt_of_not_le fun c => hfull (.inr ⟨abs_miss hm, c⟩))
        have hfew : T.L.length < 64 ∨ ∃ e ∈ T.L, e.n = seg := by
          rcases seg_cases T.L seg with ⟨j, e, hj, he⟩ | hm
          · exact .inr ⟨e, List.mem_of_getElem? hj, he⟩
          · exact .inl (Nat.lt_of_not_le fun c => hfull (.inr ⟨abs_miss hm, c⟩))
        have hroom := h.room
        have husum : used T.L + ls.flatten.length ≤ 1048576 := by
          have h9 := h.used
          clear hF hfits hfew hfull hsz hln
          generalize used T.L = u at *
          generalize ls.flatten.length = q at *
          generalize T.room = rr at *
          omega
        by_cases hf : fuseT T = 0
        · rw [doP_dead hF hf]
          exact (append_dead hG h hE hfits (spent_yes.2 hf) hg).mono fun e w' k => ⟨k.1, .dead k.2.1 k.2.2⟩
        · rw [doP_app hF hf rfl]
          refine (append_ok hG h hE hfits hnb hfew husum (spent_no.2 hf) hg hP).mono ?_
          rintro x w' ⟨rfl, T', k1, k2, k3, k4, k5⟩
          refine ⟨rfl, T', k1, plT_eq hf k2.room k2.fused k2.left k2.down ?_, k4, k5⟩
          rw [k3]
          exact app_put h.nums seg ls.flatten
end
end Go.Proofs.YtnegnokielmgkaaGreatDoor
