/- A call of the net, and the same of the document's own: they answer alike and stay alike. A message that is sent, by both. A delivery, by both. (gennetah.py wrote it.) The law's near: of any numbers, packets that there are. -/
import Derived.Test.YtmbonngjkgcijaaGreatDoorZNetAD
import Derived.Test.YtmbonngjkgcijaaGreatDoorZNetJ
import Derived.Test.YtmbonngjkgcijaaGreatDoorZMefD
set_option linter.unusedSimpArgs false
set_option linter.unusedVariables false
set_option linter.unnecessarySimpa false
namespace Go.Proofs.YtmbonngjkgcijaaGreatDoor
open Go.RowKit Go.Shelf
def QInv (Q : List RP) : Prop := ∀ x ∈ Q, (0 ≤ x.waits ∧ x.waits ≤ 1000) ∧ ∃ s : Nat, x.site = (s : Int) ∧ 1 ≤ s ∧ s ≤ 3
/-- Both side by side, alike. -/
def Alike (w0 w : World) (b r : Nat) (most : Int) (n : Nat) : Prop := ∃ v F Q C ct, NPF w0 w b r most (Q.map RP.p) C Q ct v F ∧ CutOk C ct ∧ QInv Q ∧ Q.length ≤ n
/-- Two calls answer alike, and leave both alike. -/
def Two (w0 w : World) (b r : Nat) (most : Int) (C : List Int) (Q : List RP) (ct : Nat → Bool) (v : Value) (F : Nat → Prop) (f : Nat) (fa : Array Value) (g : Nat) (ga : Array Value) : Prop :=
  ∃ (a : Int) (P' : List P3) (C' : List Int), Calls Tryz.prog f fa w (fun e w' => e = .returned (.int .i64 a) ∧ NCP w0 w b most P' C' F w') ∧
    ∀ w', NPF w0 w' b r most P' C' Q ct v F → Calls Tryz.prog g ga w' (fun e w'' => e = .returned (.int .i64 a) ∧ Alike w0 w'' b r most (Q.length + 1) ∧ Touch (fun k => k = r) w' w'')
theorem rmap_erase (L : List RP) (i : Nat) : (L.eraseIdx i).map RP.p = (L.map RP.p).eraseIdx i := by
  induction L generalizing i with
  | nil => rfl
  | cons x r ih => cases i with
    | zero => rfl
    | succ i => simp [ih]
theorem rmap_ins (L : List RP) (i : Nat) (x : RP) : (L.insertIdx i x).map RP.p = (L.map RP.p).insertIdx i x.p := by
  induction L generalizing i with
  | nil => cases i <;> rfl
  | cons y r ih => cases i with
    | zero => rfl
    | succ i => simp [ih]
theorem erase_ins {α : Type} (l : List α) (j : Nat) (x : α) (hj : j < l.length) : (l.eraseIdx j).insertIdx j x = l.set j x := by
  induction l generalizing j with
  | nil => simp at hj
  | cons y r ih => cases j with
    | zero => rfl
    | succ j =>
      rw [List.eraseIdx_cons_succ, List.insertIdx_succ_cons, ih j (by simpa using hj), List.set_cons_succ]
theorem mem_insR {α : Type} {l : List α} {k : Nat} {a x : α} (h : x ∈ l.insertIdx k a) : x = a ∨ x ∈ l := by
  induction l generalizing k with
  | nil => cases k with
    | zero => exact .inl (List.mem_singleton.1 h)
    | succ k => simp at h
  | cons y r ih => cases k with
    | zero => exact List.mem_cons.1 h
    | succ k =>
      rw [List.insertIdx_succ_cons] at h
      rcases List.mem_cons.1 h with e | e
      · exact .inr (by rw [e]; exact List.mem_cons_self)
      · rcases ih e with q | q
        · exact .inl q
        · exact .inr (List.mem_cons_of_mem _ q)
theorem inP_rp {Q : List RP} {i : Int} (h : inP (Q.map RP.p) i) : ∃ (j : Nat) (x : RP), i = (j : Int) ∧ Q[j]? = some x ∧ j < Q.length := by
  obtain ⟨j, rfl⟩ := Int.eq_ofNat_of_zero_le h.1
  have := h.2
  rw [List.length_map] at this
  exact ⟨j, Q[j]'(by omega), rfl, List.getElem?_eq_getElem (by omega), by omega⟩
theorem QInv.sub {Q Q' : List RP} (h : QInv Q) (hs : ∀ y ∈ Q', y ∈ Q) : QInv Q' := fun y hy => h y (hs y hy)
section
variable {w0 w : World} {b r : Nat} {most : Int} {C : List Int} {Q : List RP} {ct : Nat → Bool} {v : Value} {F : Nat → Prop}
theorem two_drop (hG : Glob w0) (h : NPF w0 w b r most (Q.map RP.p) C Q ct v F) (hC : CutOk C ct) (hQ : QInv Q) (hl : Q.length ≤ 1000) (i k : Int) :
    Two w0 w b r most C Q ct v F 25 #[.pointer (some ⟨b, 0, none⟩), .int .i64 i] 51 #[.pointer (some ⟨r, 0, none⟩), .int .i64 0, .int .i64 i, .int .i64 k] := by
  have hn := nc_drop hG h.net i
  by_cases hi : inP (Q.map RP.p) i
  · rw [if_pos hi, if_pos hi] at hn
    obtain ⟨j, x, rfl, hj, hjl⟩ := inP_rp hi
    rw [Int.toNat_natCast, ← rmap_erase] at hn
    refine ⟨0, _, C, hn, fun w' h' => ?_⟩
    refine (rndrop_ok h'.ref (by omega) hj).mono ?_
    rintro e w'' ⟨rfl, hp⟩
    obtain ⟨v', hv⟩ := h'.row hp (fun y hy => ⟨y, List.mem_of_mem_eraseIdx hy, rfl, rfl⟩)
    refine ⟨rfl, ⟨v', _, _, C, ct, hv, hC, hQ.sub (fun y hy => List.mem_of_mem_eraseIdx hy), ?_⟩, ?_⟩
    · rw [List.length_eraseIdx]; split <;> omega
    · obtain ⟨_, _, hT, _⟩ := hp; exact hT
  · rw [if_neg hi, if_neg hi] at hn
    refine ⟨3, _, C, hn, fun w' h' => ?_⟩
    refine (rndoes_none h'.ref (fun e => hi ⟨e.1, by rw [List.length_map]; exact e.2⟩)).mono ?_
    rintro e w'' ⟨rfl, rfl⟩
    exact ⟨rfl, ⟨v, F, Q, C, ct, h', hC, hQ, by omega⟩, Touch.refl _ _⟩
theorem two_twice (hG : Glob w0) (h : NPF w0 w b r most (Q.map RP.p) C Q ct v F) (hC : CutOk C ct) (hQ : QInv Q) (hl : Q.length ≤ 1000) (hm : most ≤ 1024) (i k : Int) :
    Two w0 w b r most C Q ct v F 26 #[.pointer (some ⟨b, 0, none⟩), .int .i64 i] 51 #[.pointer (some ⟨r, 0, none⟩), .int .i64 1, .int .i64 i, .int .i64 k] := by
  by_cases hi : inP (Q.map RP.p) i
  · obtain ⟨j, x, rfl, hj, hjl⟩ := inP_rp hi
    by_cases hf : most ≤ (Q.length : Int)
    · have hn := nc_full hG h.net (i := j) (p := x.p) (by rw [List.getElem?_map, hj]; rfl) (by rw [List.length_map]; exact hf)
      refine ⟨5, _, C, hn, fun w' h' => ?_⟩
      refine (rntwice_full h'.ref hj hf).mono ?_
      rintro e w'' ⟨rfl, hb⟩
      exact ⟨rfl, ⟨v, _, Q, C, ct, h'.more hb, hC, hQ, by omega⟩, .of_below hb⟩
    · have hn := nc_twice hG h.net hm (by rw [List.length_map]; omega) (j : Int)
      rw [if_pos hi, if_pos hi, Int.toNat_natCast] at hn
      have hd : dupL (Q.map RP.p) j = (Q ++ [{ x with waits := 0 }]).map RP.p := by
        unfold dupL
        rw [List.getElem?_map, hj, List.map_append]
        rfl
      rw [hd] at hn
      refine ⟨0, _, C, hn, fun w' h' => ?_⟩
      refine (rntwice_ok h'.ref (by omega) hj hf).mono ?_
      rintro e w'' ⟨rfl, hp⟩
      obtain ⟨v', hv⟩ := h'.row hp (fun y hy => by
        rcases List.mem_append.1 hy with e | e
        · exact ⟨y, e, rfl, rfl⟩
        · rw [List.mem_singleton.1 e]; exact ⟨x, List.mem_of_getElem? hj, rfl, rfl⟩)
      refine ⟨rfl, ⟨v', _, _, C, ct, hv, hC, fun y hy => ?_, by rw [List.length_append]; simp⟩, ?_⟩
      · rcases List.mem_append.1 hy with e | e
        · exact hQ y e
        · rw [List.mem_singleton.1 e]
          exact ⟨⟨Int.le_refl _, by show (0 : Int) ≤ 1000; decide⟩, (hQ x (List.mem_of_getElem? hj)).2⟩
      · obtain ⟨_, _, hT, _⟩ := hp; exact hT
  · have hi3 : ¬ (0 ≤ i ∧ i < (Q.length : Int)) := fun e => hi ⟨e.1, by rw [List.length_map]; exact e.2⟩
    obtain ⟨v1, ro, L, mp, E, c, q1, q2, q3, q4, q5, q6⟩ := id h.net
    have hn : Calls Tryz.prog 26 #[.pointer (some ⟨b, 0, none⟩), .int .i64 i] w fun e w' => e = .returned (.int .i64 3) ∧ NCP w0 w b most (Q.map RP.p) C F w' := by
      have hL : L.length = Q.length := by have := congrArg List.length q2; simpa using this
      refine (nTwice_no (hG.below q5) (nfind_no q1 (fun e => hi3 ⟨e.1, by rw [← hL]; exact e.2⟩))).mono ?_
      rintro e w' ⟨rfl, hb⟩
      exact ⟨rfl, h.net.pbelow hb⟩
    refine ⟨3, _, C, hn, fun w' h' => ?_⟩
    refine (rndoes_none h'.ref hi3).mono ?_
    rintro e w'' ⟨rfl, rfl⟩
    exact ⟨rfl, ⟨v, F, Q, C, ct, h', hC, hQ, by omega⟩, Touch.refl _ _⟩
theorem two_move (hG : Glob w0) (h : NPF w0 w b r most (Q.map RP.p) C Q ct v F) (hC : CutOk C ct) (hQ : QInv Q) (hl : Q.length ≤ 1000) (i k : Int) :
    Two w0 w b r most C Q ct v F 27 #[.pointer (some ⟨b, 0, none⟩), .int .i64 i, .int .i64 k] 51 #[.pointer (some ⟨r, 0, none⟩), .int .i64 2, .int .i64 i, .int .i64 k] := by
  have hn := nc_move hG h.net i k
  by_cases hi : inP (Q.map RP.p) i
  · rw [if_pos hi] at hn
    obtain ⟨j, x, rfl, hj, hjl⟩ := inP_rp hi
    by_cases hk : inP (Q.map RP.p) k
    · rw [if_pos hk, if_pos ⟨hi, hk⟩] at hn
      obtain ⟨q, _, rfl, _, hql⟩ := inP_rp hk
      have hd : moveL (Q.map RP.p) (j : Int).toNat (q : Int).toNat = ((Q.eraseIdx j).insertIdx q x).map RP.p := by
        rw [Int.toNat_natCast, Int.toNat_natCast, moveL, List.getElem?_map, hj, rmap_ins, rmap_erase]
        rfl
      rw [hd] at hn
      refine ⟨0, _, C, hn, fun w' h' => ?_⟩
      refine (rnmove_ok h'.ref (by omega) hj hql).mono ?_
      rintro e w'' ⟨rfl, hp⟩
      have hmem : ∀ y ∈ (Q.eraseIdx j).insertIdx q x, y ∈ Q := fun y hy => by
        rcases mem_insR hy with e | e
        · rw [e]; exact List.mem_of_getElem? hj
        · exact List.mem_of_mem_eraseIdx e
      obtain ⟨v', hv⟩ := h'.row hp (fun y hy => ⟨y, hmem y hy, rfl, rfl⟩)
      refine ⟨rfl, ⟨v', _, _, C, ct, hv, hC, hQ.sub hmem, ?_⟩, ?_⟩
      · rw [List.length_insertIdx, List.length_eraseIdx]; split <;> split <;> omega
      · obtain ⟨_, _, hT, _⟩ := hp; exact hT
    · rw [if_neg hk, if_neg (fun e => hk e.2)] at hn
      refine ⟨2, _, C, hn, fun w' h' => ?_⟩
      refine (rnmove_arg h'.ref hj (fun e => hk ⟨e.1, by rw [List.length_map]; exact e.2⟩)).mono ?_
      rintro e w'' ⟨rfl, hb⟩
      exact ⟨rfl, ⟨v, _, Q, C, ct, h'.more hb, hC, hQ, by omega⟩, .of_below hb⟩
  · rw [if_neg hi, if_neg (fun e => hi e.1)] at hn
    refine ⟨3, _, C, hn, fun w' h' => ?_⟩
    refine (rndoes_none h'.ref (fun e => hi ⟨e.1, by rw [List.length_map]; exact e.2⟩)).mono ?_
    rintro e w'' ⟨rfl, rfl⟩
    exact ⟨rfl, ⟨v, F, Q, C, ct, h', hC, hQ, by omega⟩, Touch.refl _ _⟩
theorem two_hold (hG : Glob w0) (h : NPF w0 w b r most (Q.map RP.p) C Q ct v F) (hC : CutOk C ct) (hQ : QInv Q) (hl : Q.length ≤ 1000) (i k : Int) :
    Two w0 w b r most C Q ct v F 28 #[.pointer (some ⟨b, 0, none⟩), .int .i64 i, .int .i64 k] 51 #[.pointer (some ⟨r, 0, none⟩), .int .i64 3, .int .i64 i, .int .i64 k] := by
  have hn := nc_hold hG h.net i k
  by_cases hi : inP (Q.map RP.p) i
  · rw [if_pos hi] at hn
    obtain ⟨j, x, rfl, hj, hjl⟩ := inP_rp hi
    by_cases hk : 0 ≤ k ∧ k ≤ 1000
    · rw [if_pos hk, if_pos ⟨hi, hk⟩] at hn
      have hd : holdL (Q.map RP.p) (j : Int).toNat k = ((Q.eraseIdx j).insertIdx j { x with waits := k }).map RP.p := by
        rw [Int.toNat_natCast, holdL, List.getElem?_map, hj, erase_ins _ _ _ hjl]
        rw [List.map_set]
        rfl
      rw [hd] at hn
      refine ⟨0, _, C, hn, fun w' h' => ?_⟩
      refine (rnhold_ok h'.ref (by omega) hj hk).mono ?_
      rintro e w'' ⟨rfl, hp⟩
      have hmem : ∀ y ∈ (Q.eraseIdx j).insertIdx j { x with waits := k }, y = { x with waits := k } ∨ y ∈ Q := fun y hy => by
        rcases mem_insR hy with e | e
        · exact .inl e
        · exact .inr (List.mem_of_mem_eraseIdx e)
      obtain ⟨v', hv⟩ := h'.row hp (fun y hy => by
        rcases hmem y hy with rfl | e
        · exact ⟨x, List.mem_of_getElem? hj, rfl, rfl⟩
        · exact ⟨y, e, rfl, rfl⟩)
      refine ⟨rfl, ⟨v', _, _, C, ct, hv, hC, fun y hy => ?_, ?_⟩, ?_⟩
      · rcases hmem y hy with rfl | e
        · exact ⟨hk, (hQ x (List.mem_of_getElem? hj)).2⟩
        · exact hQ y e
      · rw [List.length_insertIdx, List.length_eraseIdx]; split <;> split <;> omega
      · obtain ⟨_, _, hT, _⟩ := hp; exact hT
    · rw [if_neg hk, if_neg (fun e => hk e.2)] at hn
      refine ⟨2, _, C, hn, fun w' h' => ?_⟩
      refine (rnhold_arg h'.ref hj hk).mono ?_
      rintro e w'' ⟨rfl, hb⟩
      exact ⟨rfl, ⟨v, _, Q, C, ct, h'.more hb, hC, hQ, by omega⟩, .of_below hb⟩
  · rw [if_neg hi, if_neg (fun e => hi e.1)] at hn
    refine ⟨3, _, C, hn, fun w' h' => ?_⟩
    refine (rndoes_none h'.ref (fun e => hi ⟨e.1, by rw [List.length_map]; exact e.2⟩)).mono ?_
    rintro e w'' ⟨rfl, rfl⟩
    exact ⟨rfl, ⟨v, F, Q, C, ct, h', hC, hQ, by omega⟩, Touch.refl _ _⟩
theorem two_spoil (hG : Glob w0) (h : NPF w0 w b r most (Q.map RP.p) C Q ct v F) (hC : CutOk C ct) (hQ : QInv Q) (hl : Q.length ≤ 1000) (i k : Int) :
    Two w0 w b r most C Q ct v F 29 #[.pointer (some ⟨b, 0, none⟩), .int .i64 i, .int .i64 k] 51 #[.pointer (some ⟨r, 0, none⟩), .int .i64 4, .int .i64 i, .int .i64 k] := by
  have hn := nc_spoil hG h.net i k
  have hfew := fun (x : RP) (hx : x ∈ Q) => (nc_few h.net).2 x.p (List.mem_map_of_mem hx)
  by_cases hi : inP (Q.map RP.p) i
  · rw [if_pos hi] at hn
    obtain ⟨j, x, rfl, hj, hjl⟩ := inP_rp hi
    have hxm := List.mem_of_getElem? hj
    have hbit : bitsP (Q.map RP.p) (j : Int).toNat = 8 * (x.bs.length : Int) := by
      rw [Int.toNat_natCast]
      unfold bitsP
      rw [List.getElem?_map, hj]
      rfl
    rw [hbit] at hn
    by_cases hk : 0 ≤ k ∧ k < 8 * (x.bs.length : Int)
    · rw [if_pos hk, if_pos ⟨hi, hk⟩] at hn
      obtain ⟨q, rfl⟩ := Int.eq_ofNat_of_zero_le hk.1
      have hkq := hk.2
      refine ⟨0, _, C, hn, fun w' h' => ?_⟩
      refine (rnspoil_ok h'.ref (by omega) hj (k := q) (by omega) (hfew x hxm).2 (h'.by_ x hxm w' (Touch.refl _ _))).mono ?_
      rintro e w'' ⟨rfl, g, c, ho, hp⟩
      have hd : spoilL (Q.map RP.p) (j : Int).toNat (q : Int).toNat = ((Q.eraseIdx j).insertIdx j ⟨spoilB x.bs q, x.site, x.waits, some ⟨g, 0, none⟩, c⟩).map RP.p := by
        rw [Int.toNat_natCast, Int.toNat_natCast, spoilL, List.getElem?_map, hj, erase_ins _ _ _ hjl]
        rw [List.map_set]
        rfl
      rw [hd] at h'
      have hmem : ∀ y ∈ (Q.eraseIdx j).insertIdx j ⟨spoilB x.bs q, x.site, x.waits, some ⟨g, 0, none⟩, c⟩, y = ⟨spoilB x.bs q, x.site, x.waits, some ⟨g, 0, none⟩, c⟩ ∨ y ∈ Q := fun y hy => by
        rcases mem_insR hy with e | e
        · exact .inl e
        · exact .inr (List.mem_of_mem_eraseIdx e)
      have hne : spoilB x.bs q ≠ [] := fun e => by
        have := congrArg List.length e
        rw [spoilB_len] at this
        exact (hfew x hxm).1 (List.length_eq_zero_iff.1 this)
      obtain ⟨v', hv⟩ := h'.rowNew hp (z := ⟨spoilB x.bs q, x.site, x.waits, some ⟨g, 0, none⟩, c⟩) rfl rfl ho hne (fun e => by
        have := congrArg List.length e
        rw [erase_ins _ _ _ hjl, List.length_set] at this
        have h0 : Q.length = 0 := this
        omega) (fun y hy => by
        rcases hmem y hy with e | e
        · exact .inl e
        · exact .inr ⟨y, e, rfl, rfl⟩)
      refine ⟨rfl, ⟨v', _, _, C, ct, hv, hC, fun y hy => ?_, ?_⟩, ?_⟩
      · rcases hmem y hy with rfl | e
        · exact hQ x hxm
        · exact hQ y e
      · rw [List.length_insertIdx, List.length_eraseIdx]; split <;> split <;> omega
      · obtain ⟨_, _, hT, _⟩ := hp; exact hT
    · rw [if_neg hk, if_neg (fun e => hk e.2)] at hn
      refine ⟨2, _, C, hn, fun w' h' => ?_⟩
      refine (rnspoil_arg h'.ref hj hk (hfew x hxm).2).mono ?_
      rintro e w'' ⟨rfl, hb⟩
      exact ⟨rfl, ⟨v, _, Q, C, ct, h'.more hb, hC, hQ, by omega⟩, .of_below hb⟩
  · rw [if_neg hi, if_neg (fun e => hi e.1)] at hn
    refine ⟨3, _, C, hn, fun w' h' => ?_⟩
    refine (rndoes_none h'.ref (fun e => hi ⟨e.1, by rw [List.length_map]; exact e.2⟩)).mono ?_
    rintro e w'' ⟨rfl, rfl⟩
    exact ⟨rfl, ⟨v, F, Q, C, ct, h', hC, hQ, by omega⟩, Touch.refl _ _⟩
theorem CutOk.part (hC : CutOk C ct) {s : Nat} (hs : 1 ≤ s ∧ s ≤ 3) : CutOk (partC C (s : Int)) (ctSet ct s true) := by
  have hmem : ∀ a : Int, a ∈ partC C (s : Int) ↔ a = (s : Int) ∨ a ∈ C := fun a => by
    unfold partC
    split
    · rename_i h
      exact ⟨.inr, fun e => by rcases e with rfl | e; exact h; exact e⟩
    · rw [List.mem_append, List.mem_singleton]; exact or_comm
  refine ⟨fun t => ?_, fun t ht => ?_, ?_, ?_⟩
  · rw [hmem, hC.mem]
    unfold ctSet
    by_cases e : t = s
    · subst e; simp; omega
    · rw [if_neg e]
      constructor
      · rintro (h | h)
        · exact absurd (by exact_mod_cast h) e
        · exact h
      · exact .inr
  · rcases (hmem t).1 ht with rfl | h
    · omega
    · exact hC.sub t h
  · unfold partC
    split
    · exact hC.one
    · rename_i h
      exact List.nodup_append.2 ⟨hC.one, List.nodup_cons.2 ⟨by simp, List.nodup_nil⟩, fun a ha b hb e => h (by rw [List.mem_singleton.1 hb] at e; exact e ▸ ha)⟩
  · unfold ctSet
    rw [if_neg (by omega)]
    exact hC.zero
theorem CutOk.heal (hC : CutOk C ct) {s : Nat} (hs : 1 ≤ s ∧ s ≤ 3) : CutOk (C.erase (s : Int)) (ctSet ct s false) := by
  refine ⟨fun t => ?_, fun t ht => hC.sub t (List.mem_of_mem_erase ht), hC.one.erase _, ?_⟩
  · rw [hC.one.mem_erase_iff, hC.mem]
    unfold ctSet
    by_cases e : t = s
    · subst e; simp
    · rw [if_neg e]
      exact ⟨fun h => h.2, fun h => ⟨fun q => e (by exact_mod_cast q), h⟩⟩
  · unfold ctSet
    rw [if_neg (by omega)]
    exact hC.zero
theorem two_part (hG : Glob w0) (h : NPF w0 w b r most (Q.map RP.p) C Q ct v F) (hC : CutOk C ct) (hQ : QInv Q) (i : Int) :
    Two w0 w b r most C Q ct v F 32 #[.pointer (some ⟨b, 0, none⟩), .int .i64 i] 52 #[.pointer (some ⟨r, 0, none⟩), .int .i64 i, .bool true] := by
  by_cases hs : 1 ≤ i ∧ i ≤ 3
  · obtain ⟨s, rfl⟩ := Int.eq_ofNat_of_zero_le (a := i) (by omega)
    refine ⟨0, _, _, nc_part hG h.net hs, fun w' h' => ?_⟩
    refine (rnpart_ok h'.ref (s := s) (by omega) true).mono ?_
    rintro e w'' ⟨rfl, h1, hT⟩
    exact ⟨rfl, ⟨v, F, Q, _, _, h'.part h1 hT, hC.part (by omega), hQ, by omega⟩, hT⟩
  · refine ⟨2, _, _, nc_part_arg hG h.net hs, fun w' h' => ?_⟩
    refine (rnpart_not hs true).mono ?_
    rintro e w'' ⟨rfl, rfl⟩
    exact ⟨rfl, ⟨v, F, Q, C, ct, h', hC, hQ, by omega⟩, Touch.refl _ _⟩
theorem two_heal (hG : Glob w0) (h : NPF w0 w b r most (Q.map RP.p) C Q ct v F) (hC : CutOk C ct) (hQ : QInv Q) (i : Int) :
    Two w0 w b r most C Q ct v F 33 #[.pointer (some ⟨b, 0, none⟩), .int .i64 i] 52 #[.pointer (some ⟨r, 0, none⟩), .int .i64 i, .bool false] := by
  by_cases hs : 1 ≤ i ∧ i ≤ 3
  · obtain ⟨s, rfl⟩ := Int.eq_ofNat_of_zero_le (a := i) (by omega)
    refine ⟨0, _, _, nc_heal hG h.net hC.one hs, fun w' h' => ?_⟩
    refine (rnpart_ok h'.ref (s := s) (by omega) false).mono ?_
    rintro e w'' ⟨rfl, h1, hT⟩
    exact ⟨rfl, ⟨v, F, Q, _, _, h'.part h1 hT, hC.heal (by omega), hQ, by omega⟩, hT⟩
  · refine ⟨2, _, _, nc_heal_arg hG h.net hs, fun w' h' => ?_⟩
    refine (rnpart_not hs false).mono ?_
    rintro e w'' ⟨rfl, rfl⟩
    exact ⟨rfl, ⟨v, F, Q, C, ct, h', hC, hQ, by omega⟩, Touch.refl _ _⟩
end
end Go.Proofs.YtmbonngjkgcijaaGreatDoor

namespace Go.Proofs.YtmbonngjkgcijaaGreatDoor
open Go.RowKit Go.Shelf
section
variable {w0 : World} {b r : Nat} {most : Int} {C : List Int} {Q : List RP} {ct : Nat → Bool} {v : Value}
theorem CutOk.at_site (hC : CutOk C ct) {s : Int} (hs : 1 ≤ s ∧ s ≤ 3) : s ∈ C ↔ ct s.toNat = true := by
  obtain ⟨n, rfl⟩ := Int.eq_ofNat_of_zero_le (a := s) (by omega)
  rw [Int.toNat_natCast, hC.mem]
  exact ⟨fun e => e.2.2, fun e => ⟨by omega, by omega, e⟩⟩
theorem send_alike (hC : CutOk C ct) (hQ : QInv Q) (hl : Q.length ≤ 1000) {m : MsgV} (hin : MsgIn m) (hti : m.ti ≤ 9223372036854775807) :
    ∃ a : Bool, ((sendD most C (Q.map RP.p) m).length : Int) - ((Q.map RP.p).length : Int) = (if a then 1 else 0) ∧ ∀ w' F (tA oA : Option Addr) (tc oc : Nat), NPF w0 w' b r most (sendD most C (Q.map RP.p) m) C Q ct v F → MsgIs w' (.agg (cellM m tA tc oA oc)) m →
      Calls Tryz.prog 49 #[.pointer (some ⟨r, 0, none⟩), .agg (cellM m tA tc oA oc)] w' fun e w'' => e = .returned (.bool a) ∧ Alike w0 w'' b r most (Q.length + 1) := by
  by_cases hs : mayM m = true ∧ siteM m ∉ C ∧ ((Q.map RP.p).length : Int) < most
  · rw [sendD, if_pos hs]
    refine ⟨true, by rw [List.length_append, List.length_singleton]; simp; omega, fun w' F tA oA tc oc h hm => ?_⟩
    obtain ⟨h1, h2, h3⟩ := hs
    rw [List.length_map] at h3
    have hne := encM_few h1 hin
    have hsb := (site_sum h1).2
    refine (rnsend_yes h.ref hl hm hin h1).mono ?_
    rintro e w'' (⟨hc, _⟩ | ⟨_, _, rfl, A, cap, ho, hp⟩)
    · rcases hc with hc | hc
      · exact (h2 ((hC.at_site hsb).2 hc)).elim
      · omega
    · rcases ho with ho | ⟨g, c, hg, ho⟩
      · exact (hne.1 ho.2).elim
      · cases hg
        obtain ⟨v', hv⟩ := h.rowNew hp (z := ⟨encM m, siteM m, 0, some ⟨g, 0, none⟩, cap⟩) rfl rfl ho hne.1 (by simp) (fun y hy => by
          rcases List.mem_append.1 hy with e | e
          · exact .inr ⟨y, e, rfl, rfl⟩
          · exact .inl (List.mem_singleton.1 e))
        refine ⟨rfl, v', _, Q ++ [⟨encM m, siteM m, 0, some ⟨g, 0, none⟩, cap⟩], C, ct, by rw [List.map_append]; exact hv, hC, fun y hy => ?_, by rw [List.length_append, List.length_singleton]; omega⟩
        rcases List.mem_append.1 hy with e | e
        · exact hQ y e
        · rw [List.mem_singleton.1 e]
          obtain ⟨n, hn⟩ := Int.eq_ofNat_of_zero_le (a := siteM m) (by omega)
          exact ⟨⟨Int.le_refl _, by show (0 : Int) ≤ 1000; decide⟩, n, hn, by omega, by omega⟩
  · rw [sendD, if_neg hs]
    refine ⟨false, by simp, fun w' F tA oA tc oc h hm => ?_⟩
    cases hmay : mayM m with
    | false =>
      refine (rnsend_not h.ref hm hti hmay).mono ?_
      rintro e w'' ⟨rfl, hb⟩
      exact ⟨rfl, v, _, Q, C, ct, h.more hb, hC, hQ, by omega⟩
    | true =>
      have hsb := (site_sum hmay).2
      refine (rnsend_yes h.ref hl hm hin hmay).mono ?_
      rintro e w'' (⟨_, rfl, hb⟩ | ⟨h1, h2, _⟩)
      · exact ⟨rfl, v, _, Q, C, ct, h.more hb, hC, hQ, by omega⟩
      · refine (hs ⟨hmay, fun e => ?_, by rw [List.length_map]; exact h2⟩).elim
        rw [(hC.at_site hsb).1 e] at h1
        cases h1
end
end Go.Proofs.YtmbonngjkgcijaaGreatDoor

namespace Go.Proofs.YtmbonngjkgcijaaGreatDoor
open Go.RowKit Go.Shelf
section
variable {w : World} {b : Nat} {most : Int} {v : Value} {L : List Pk} {mp : Nat} {C : List MapEntry} {c : Nat} {ro : Nat → Nat}
/-- What a delivery leaves and answers. -/
def DelW (w : World) (b : Nat) (most : Int) (mp : Nat) (C : List MapEntry) (c : Nat) (ro : Nat → Nat) (P : List P3) (bs : List UInt8) (e : Ending) (w' : World) : Prop :=
  NetP w b most mp C c ro P w' ∧ ((decM bs = none ∧ e = .returned (.tuple #[zeroM, .int .i64 6])) ∨ ∃ m v, decM bs = some m ∧ e = .returned (.tuple #[v, .int .i64 0]) ∧ ∀ W', Touch (fun k => k < w.heap.size) w' W' → MsgIs W' v m)
set_option maxRecDepth 100000 in
set_option maxHeartbeats 4000000 in
theorem nDeliver_own (hG : Glob w) (hMv : Mov w) (h0 : ro 1 = 0 ∧ ro 0 = 0) (h : NetAt w b most v L mp C c ro) {i : Nat} {x : Pk} (hi : L[i]? = some x) (hw : x.waits = 0) (hsr : -9223372036854775808 ≤ x.site ∧ x.site ≤ 9223372036854775807) (hno : ∀ e ∈ C, e.key ≠ .int .i64 x.site) :
    Calls Tryz.prog 22 #[.pointer (some ⟨b, 0, none⟩), .int .i64 i] w (DelW w b most mp C c ro ((L.map Pk.p).eraseIdx i) x.bs) := by
  have hx := List.mem_of_getElem? hi
  have HF := Lib.hid (fun W (hW : Below w.heap.size w W) => nfind_ok (h.below hW) hi)
  have HPA := Lib.hid (fun W (hW : Below w.heap.size w W) => nparted_no (h.below hW) hsr hno)
  have HTK := Lib.hid (fun W (hW : Below w.heap.size w W) => ntake_any (h.below hW) (List.getElem?_eq_some_iff.1 hi).1)
  have HG := Lib.hid (And.intro hG (And.intro hMv h0))
  have hb0 := below_new (w := w) (.cells zeroC 50)
  have HB0 := Lib.hid hb0
  have HH := Lib.hid (And.intro h (And.intro hx (h.rp x hx)))
  have HR0 : Hid (ro w.heap.size = 0) := Lib.hid (by
    by_cases e : ro w.heap.size = 0
    · exact e
    · have := h.lt _ e; omega)
  have HAT : Hid (∀ W, Below (w.alloc (.cells zeroC 50)).heap.size (w.alloc (.cells zeroC 50)) W → W.heap[w.heap.size]? = some (.cells zeroC 50 (0, 0))) := Lib.hid (fun W hW => (hW.block _ (by rw [asz]; exact Nat.lt_succ_self _)).trans (alloc_at _ _))
  have hpk := (h.below hb0).pk x hx
  unfold Pk.cells at hpk
  have hc1 := cell_of hpk 1
  have hc2 := cell_of hpk 2
  rw [hw] at hc2
  unfold Pk.ptr at HF
  simp at hc1 hc2
  clear h hi hG hMv h0 hb0 hpk hw hsr hno hx
  go_enter Tryz.func22, Tryz.ntmps22
  go_wp2_with fail
  refine (HF.out _ HB0.out).mono ?_
  rintro e w1 ⟨rfl, rfl⟩
  go_wp2_with fail
  refine (HPA.out _ HB0.out).mono ?_
  rintro e w2 ⟨rfl, hb2⟩
  have HB2 := Lib.hid (HB0.out.trans (hb2.mono HB0.out.size))
  have HA2 := Lib.hid hb2
  clear hb2 hc1 hc2
  go_wp2_with fail
  refine (HTK.out _ HB2.out).mono ?_
  rintro e w3 ⟨v3, rfl, hn3, ht3⟩
  have hst3 : Step w w3 ro ro := Step.ahead HB2.out (Step.same ht3 (fun k e => by omega))
  have hpk3 : w3.heap[x.pb]? = some (.cells x.cells 125 (0, 0)) := (ht3.block _ (heap_lt ((HH.out.1.below HB2.out).pk x HH.out.2.1)) (fun q => by have := HH.out.2.2; omega)).trans ((HH.out.1.below HB2.out).pk x HH.out.2.1)
  have hby3 : OwnBy w3 0 x.v x.bs := .inr ⟨x.g, x.cap, rfl, ((HH.out.1.below HB2.out).by_ x HH.out.2.1).keep ht3.size (ht3.block _ ((HH.out.1.below HB2.out).by_ x HH.out.2.1).lt (fun q => by have := HH.out.2.2; omega))⟩
  have HDE := Lib.hid (Decode_own (HG.out.1.step HG.out.2.2.1 hst3) (HG.out.2.1.step HG.out.2.2.2 hst3) hby3.bis)
  have hat3 : w3.heap[w.heap.size]? = some (.cells zeroC 50 (0, 0)) := (ht3.block _ (heap_lt (HAT.out _ HA2.out)) (fun q => by have := HR0.out; omega)).trans (HAT.out _ HA2.out)
  have HN3 := Lib.hid (And.intro hn3 (And.intro hst3 hat3))
  unfold Pk.cells at hpk3
  have hc := cell_of hpk3 0
  unfold Pk.v at hc HDE
  simp at hc
  clear hn3 ht3 hst3 hpk3 hby3 hat3
  go_wp2_with fail
  refine (HDE.out).mono ?_
  rintro e w4 ⟨hb4, hcs⟩
  have hat2 := (hb4.block _ (heap_lt HN3.out.2.2)).trans HN3.out.2.2
  have HN4 := Lib.hid (And.intro (HN3.out.1.below hb4) (HN3.out.2.1.after hb4))
  have HS3 := Lib.hid (heap_lt HN3.out.2.2)
  have HFIN : Hid (∀ W5, Touch (fun k => k = w.heap.size) w4 W5 → NetP w b most mp C c ro ((L.map Pk.p).eraseIdx i) W5) := Lib.hid (fun W5 hT => ⟨v3, ro, _, HN4.out.1.keep hT (fun k e => by rw [e]; exact HR0.out), ⟨HN4.out.2.1.trans hT (fun k hk e => by omega), fun _ _ => rfl⟩, map_erase L i⟩)
  clear hb4
  rcases hcs with ⟨hd, rfl⟩ | ⟨m, v5, hd, rfl, hm⟩
  · have HD := Lib.hid hd
    clear hd
    have HZ5 := Lib.hid (setCells_at w.heap.size (zeroC).toList [] zeroC.toList w4 rfl hat2)
    have HT5 := Lib.hid (setCells_touch (S := fun k => k = w.heap.size) (a := w4) w.heap.size (fun _ => rfl) (zeroC).toList 0 w4 (Touch.refl _ _))
    have r0 := cell_of hat2 0; have r1 := cell_of hat2 1; have r2 := cell_of hat2 2; have r3 := cell_of hat2 3; have r4 := cell_of hat2 4; have r5 := cell_of hat2 5; have r6 := cell_of hat2 6; have r7 := cell_of hat2 7; have r8 := cell_of hat2 8; have r9 := cell_of hat2 9; have r10 := cell_of hat2 10
    simp at r0 r1 r2 r3 r4 r5 r6 r7 r8 r9 r10
    have f0 := free0 hat2 0; have f1 := free0 hat2 1; have f2 := free0 hat2 2; have f3 := free0 hat2 3; have f4 := free0 hat2 4; have f5 := free0 hat2 5; have f6 := free0 hat2 6; have f7 := free0 hat2 7; have f8 := free0 hat2 8; have f9 := free0 hat2 9; have f10 := free0 hat2 10
    clear hat2
    go_wp2_with fail
    change bodyPost _ _ _ _ _ (World.setCells _ w.heap.size 0 (zeroC).toList)
    simp only [List.length_nil, List.nil_append] at HZ5
    generalize World.setCells _ w.heap.size 0 (zeroC).toList = W5 at *
    clear r0 r1 r2 r3 r4 r5 r6 r7 r8 r9 r10 f0 f1 f2 f3 f4 f5 f6 f7 f8 f9 f10
    have j0 := cell_of HZ5.out 0; have j1 := cell_of HZ5.out 1; have j2 := cell_of HZ5.out 2; have j3 := cell_of HZ5.out 3; have j4 := cell_of HZ5.out 4; have j5 := cell_of HZ5.out 5; have j6 := cell_of HZ5.out 6; have j7 := cell_of HZ5.out 7; have j8 := cell_of HZ5.out 8; have j9 := cell_of HZ5.out 9; have j10 := cell_of HZ5.out 10
    simp at j0 j1 j2 j3 j4 j5 j6 j7 j8 j9 j10
    refine bodyPost_ret (v := .tuple #[zeroM, .int .i64 6]) (by simp [results, Tryz.results22, go_sem, j0, j1, j2, j3, j4, j5, j6, j7, j8, j9, j10]) rfl ?_
    exact ⟨HFIN.out _ HT5.out, .inl ⟨HD.out, rfl⟩⟩
  · obtain ⟨tA, tc, oA, oc, rfl, _⟩ := hm w4 (Touch.refl _ _)
    have HD := Lib.hid (And.intro hd hm)
    clear hd hm
    have HZ5 := Lib.hid (setCells_at w.heap.size (cellM m tA tc oA oc).toList [] zeroC.toList w4 rfl hat2)
    have HT5 := Lib.hid (setCells_touch (S := fun k => k = w.heap.size) (a := w4) w.heap.size (fun _ => rfl) (cellM m tA tc oA oc).toList 0 w4 (Touch.refl _ _))
    have r0 := cell_of hat2 0; have r1 := cell_of hat2 1; have r2 := cell_of hat2 2; have r3 := cell_of hat2 3; have r4 := cell_of hat2 4; have r5 := cell_of hat2 5; have r6 := cell_of hat2 6; have r7 := cell_of hat2 7; have r8 := cell_of hat2 8; have r9 := cell_of hat2 9; have r10 := cell_of hat2 10
    simp at r0 r1 r2 r3 r4 r5 r6 r7 r8 r9 r10
    have f0 := free0 hat2 0; have f1 := free0 hat2 1; have f2 := free0 hat2 2; have f3 := free0 hat2 3; have f4 := free0 hat2 4; have f5 := free0 hat2 5; have f6 := free0 hat2 6; have f7 := free0 hat2 7; have f8 := free0 hat2 8; have f9 := free0 hat2 9; have f10 := free0 hat2 10
    clear hat2
    go_wp2_with fail
    change bodyPost _ _ _ _ _ (World.setCells _ w.heap.size 0 (cellM m tA tc oA oc).toList)
    simp only [List.length_nil, List.nil_append] at HZ5
    generalize World.setCells _ w.heap.size 0 (cellM m tA tc oA oc).toList = W5 at *
    clear r0 r1 r2 r3 r4 r5 r6 r7 r8 r9 r10 f0 f1 f2 f3 f4 f5 f6 f7 f8 f9 f10
    have j0 := cell_of HZ5.out 0; have j1 := cell_of HZ5.out 1; have j2 := cell_of HZ5.out 2; have j3 := cell_of HZ5.out 3; have j4 := cell_of HZ5.out 4; have j5 := cell_of HZ5.out 5; have j6 := cell_of HZ5.out 6; have j7 := cell_of HZ5.out 7; have j8 := cell_of HZ5.out 8; have j9 := cell_of HZ5.out 9; have j10 := cell_of HZ5.out 10
    simp at j0 j1 j2 j3 j4 j5 j6 j7 j8 j9 j10
    refine bodyPost_ret (v := .tuple #[.agg (cellM m tA tc oA oc), .int .i64 0]) (by simp [results, Tryz.results22, go_sem, j0, j1, j2, j3, j4, j5, j6, j7, j8, j9, j10]) rfl ?_
    exact ⟨HFIN.out _ HT5.out, .inr ⟨m, _, HD.out.1, rfl, fun W' hW => HD.out.2 _ ((HT5.out.mono (fun k _ e => by have := HS3.out; omega)).trans (hW.mono (fun k _ e => by have := HS3.out; omega)) (fun k _ e => e))⟩⟩
end
section
variable {w0 w : World} {b r : Nat} {most : Int} {P : List P3} {C : List Int} {Q : List RP} {ct : Nat → Bool} {v : Value} {F : Nat → Prop}
theorem nc_deliverW (hG : Glob w0) (hM : Mov w0) (h : NC w0 w b most P C F) {i : Nat} {p : P3} (hi : P[i]? = some p) (hw : p.2.2 = 0) (hs : -9223372036854775808 ≤ p.2.1 ∧ p.2.1 ≤ 9223372036854775807) (hc : p.2.1 ∉ C) : Calls Tryz.prog 22 #[.pointer (some ⟨b, 0, none⟩), .int .i64 i] w fun e w' => NCP w0 w b most (P.eraseIdx i) C F w' ∧ ((decM p.1 = none ∧ e = .returned (.tuple #[zeroM, .int .i64 6])) ∨ ∃ m v, decM p.1 = some m ∧ e = .returned (.tuple #[v, .int .i64 0]) ∧ ∀ W', Touch (fun k => k < w.heap.size) w' W' → MsgIs W' v m) := by
  obtain ⟨v, ro, L, mp, E, c, h1, rfl, hke, h3, h4, h5⟩ := h
  obtain ⟨x, hx, rfl⟩ := get_p hi
  refine (nDeliver_own (hG.below h4) (hM.below h4) ⟨old_errT hG h3, old_moved hM h3⟩ h1 hx hw hs (keys_not hke hc)).mono ?_
  rintro e w' ⟨hp, hc⟩
  exact ⟨NC.next h1 hke h3 h4 h5 hp, hc⟩
/-- What a delivery of the net answers, with the message mm and the number cd. -/
def DelN (w0 w : World) (b : Nat) (most : Int) (P : List P3) (C : List Int) (F : Nat → Prop) (mm : MsgV) (cd : Int) (e : Ending) (w' : World) : Prop :=
  ∃ tA tc oA oc, e = .returned (.tuple #[.agg (cellM mm tA tc oA oc), .int .i64 cd]) ∧ NCP w0 w b most P C F w' ∧ ∀ W', Touch (fun k => k < w.heap.size) w' W' → MsgIs W' (.agg (cellM mm tA tc oA oc)) mm
def DelR (w0 w : World) (b r : Nat) (most : Int) (n : Nat) (mm : MsgV) (cd : Int) (e : Ending) (w' : World) : Prop :=
  ∃ tA tc oA oc, e = .returned (.tuple #[.agg (cellM mm tA tc oA oc), .int .i64 cd]) ∧ MsgIs w' (.agg (cellM mm tA tc oA oc)) mm ∧ Alike w0 w' b r most n ∧ Touch (fun k => k = r) w w'
theorem two_deliver (hG : Glob w0) (hM : Mov w0) (h : NPF w0 w b r most (Q.map RP.p) C Q ct v F) (hC : CutOk C ct) (hQ : QInv Q) (hl : Q.length ≤ 1000) (i : Int) :
    ∃ (mm : MsgV) (cd : Int) (P' : List P3), Calls Tryz.prog 22 #[.pointer (some ⟨b, 0, none⟩), .int .i64 i] w (DelN w0 w b most P' C F mm cd) ∧
      ∀ w' F', NPF w0 w' b r most P' C Q ct v F' → Calls Tryz.prog 50 #[.pointer (some ⟨r, 0, none⟩), .int .i64 i] w' (DelR w0 w' b r most (Q.length + 1) mm cd) := by
  have same : ∀ w' F' w'', NPF w0 w' b r most (Q.map RP.p) C Q ct v F' → Below w'.heap.size w' w'' → ∀ cd, DelR w0 w' b r most (Q.length + 1) zM cd (.returned (.tuple #[.agg (cellM zM none 0 none 0), .int .i64 cd])) w'' := fun w' F' w'' h' hb cd => ⟨none, 0, none, 0, rfl, zM_is _, ⟨v, _, Q, C, ct, h'.more hb, hC, hQ, by omega⟩, .of_below hb⟩
  by_cases hi : inP (Q.map RP.p) i
  · obtain ⟨j, x, rfl, hj, hjl⟩ := inP_rp hi
    have hp : (Q.map RP.p)[j]? = some x.p := by rw [List.getElem?_map, hj]; rfl
    obtain ⟨⟨hw0, hw1⟩, s, hs, hs1, hs3⟩ := hQ x (List.mem_of_getElem? hj)
    have hcs : x.site ∈ C ↔ ct s = true := by rw [hs, hC.mem]; exact ⟨fun e => e.2.2, fun e => ⟨hs1, hs3, e⟩⟩
    by_cases hwt : 0 < x.waits
    · refine ⟨zM, 20, Q.map RP.p, (nc_busy hG h.net hp hwt).mono ?_, fun w' F' h' => (rndel_busy h'.ref hj hs (by omega) hw0 (.inl hwt)).mono ?_⟩
      · rintro e w' ⟨rfl, hn⟩
        exact ⟨none, 0, none, 0, rfl, hn, fun W' _ => zM_is _⟩
      · rintro e w'' ⟨rfl, hb⟩
        exact same w' F' w'' h' hb 20
    · have hz : x.waits = 0 := by omega
      by_cases hc : x.site ∈ C
      · refine ⟨zM, 20, Q.map RP.p, (nc_cut hG h.net hp hz (by show _ ≤ x.site ∧ x.site ≤ _; omega) hc).mono ?_, fun w' F' h' => (rndel_busy h'.ref hj hs (by omega) hw0 (.inr (hcs.1 hc))).mono ?_⟩
        · rintro e w' ⟨rfl, hn⟩
          exact ⟨none, 0, none, 0, rfl, hn, fun W' _ => zM_is _⟩
        · rintro e w'' ⟨rfl, hb⟩
          exact same w' F' w'' h' hb 20
      · have hct : ct s = false := by
          cases e : ct s with
          | false => rfl
          | true => exact (hc (hcs.2 e)).elim
        have hn := nc_deliverW hG hM h.net hp hz (by show _ ≤ x.site ∧ x.site ≤ _; omega) hc
        have hr := fun w' F' (h' : NPF w0 w' b r most ((Q.map RP.p).eraseIdx j) C Q ct v F') => rndel_ok h'.ref hl hj hs (by omega) hz hct (fun W hW => h'.by_ x (List.mem_of_getElem? hj) W (hW.mono (fun k _ e => .inr (.inl e))))
        have hal : ∀ w' F' w'', NPF w0 w' b r most ((Q.map RP.p).eraseIdx j) C Q ct v F' → RPost w' r most (Q.eraseIdx j) ct w'' → Alike w0 w'' b r most (Q.length + 1) ∧ Touch (fun k => k = r) w' w'' := fun w' F' w'' h' hp => by
          obtain ⟨v', hv⟩ := h'.row hp (fun y hy => ⟨y, List.mem_of_mem_eraseIdx hy, rfl, rfl⟩)
          rw [← rmap_erase] at hv
          refine ⟨⟨v', _, _, C, ct, hv, hC, hQ.sub (fun y hy => List.mem_of_mem_eraseIdx hy), ?_⟩, ?_⟩
          · rw [List.length_eraseIdx]; split <;> omega
          · obtain ⟨_, _, hT, _⟩ := hp; exact hT
        cases hd : decM x.bs with
        | none =>
          refine ⟨zM, 6, (Q.map RP.p).eraseIdx j, hn.mono ?_, fun w' F' h' => (hr w' F' h').mono ?_⟩
          · rintro e w' ⟨hn, ⟨_, rfl⟩ | ⟨m, u, he, _⟩⟩
            · exact ⟨none, 0, none, 0, rfl, hn, fun W' _ => zM_is _⟩
            · rw [show x.p.1 = x.bs from rfl, hd] at he; cases he
          · rintro e w'' ⟨hp, ⟨_, rfl⟩ | ⟨m, tA, tc, oA, oc, he, _⟩⟩
            · exact ⟨none, 0, none, 0, rfl, zM_is _, hal w' F' w'' h' hp⟩
            · rw [hd] at he; cases he
        | some m0 =>
          refine ⟨m0, 0, (Q.map RP.p).eraseIdx j, hn.mono ?_, fun w' F' h' => (hr w' F' h').mono ?_⟩
          · rintro e w' ⟨hn, ⟨he, _⟩ | ⟨m, u, he, rfl, hm⟩⟩
            · rw [show x.p.1 = x.bs from rfl, hd] at he; cases he
            · rw [show x.p.1 = x.bs from rfl, hd] at he
              cases he
              obtain ⟨tA, tc, oA, oc, rfl, _⟩ := hm w' (Touch.refl _ _)
              exact ⟨tA, tc, oA, oc, rfl, hn, hm⟩
          · rintro e w'' ⟨hp, ⟨he, _⟩ | ⟨m, tA, tc, oA, oc, he, rfl, hm⟩⟩
            · rw [hd] at he; cases he
            · rw [hd] at he
              cases he
              exact ⟨tA, tc, oA, oc, rfl, hm, hal w' F' w'' h' hp⟩
  · refine ⟨zM, 3, Q.map RP.p, (nc_none hG h.net hi).mono ?_, fun w' F' h' => (rndel_none h'.ref (fun e => hi ⟨e.1, by rw [List.length_map]; exact e.2⟩)).mono ?_⟩
    · rintro e w' ⟨rfl, hn⟩
      exact ⟨none, 0, none, 0, rfl, hn, fun W' _ => zM_is _⟩
    · rintro e w'' ⟨rfl, hb⟩
      exact same w' F' w'' h' hb 3
end
end Go.Proofs.YtmbonngjkgcijaaGreatDoor

namespace Go.Proofs.YtmbonngjkgcijaaGreatDoor
open Go.RowKit Go.Shelf
abbrev zeroN : Array Value := #[.int .i64 0, .bool false, .int .i64 0, .int .i64 0, .int .i64 0, .int .i64 0, .int .i64 0, .int .i64 0, .int .i64 0, .int .i64 0, .int .i64 0, .slice none 0 0, .slice none 0 0, .int .i64 0, .int .i64 0]
set_option maxRecDepth 100000 in
set_option maxHeartbeats 4000000 in
theorem near_any {w : World} (o : OpN) (n : Nat) (hn : n ≤ 1024) (hi : -9223372036854775808 ≤ o.i ∧ o.i ≤ 9223372036854775807) (hk : -9223372036854775808 ≤ o.k ∧ o.k ≤ 9223372036854775807) (tA oA : Option Addr) (tc oc : Nat) : Calls Tryz.prog 15 #[.agg (cellN o tA tc oA oc), .int .i64 n] w fun e w' => ∃ i k, e = .returned (.agg (cellN { o with i := i, k := k } tA tc oA oc)) ∧ (-9223372036854775808 ≤ i ∧ i ≤ 9223372036854775807) ∧ (-9223372036854775808 ≤ k ∧ k ≤ 9223372036854775807) ∧ Below w.heap.size w w' := by
  obtain ⟨kd, nr, m, i, k⟩ := o
  simp only at hi hk ⊢
  have hB : ∀ (i k : Int) (z : Array Value), Below w.heap.size w ((w.alloc (.cells (cellN ⟨kd, nr, m, i, k⟩ tA tc oA oc) 39)).alloc (.cells z 39)) := fun i k z => (below_new _).trans ((below_new _).mono (by rw [asz]; exact Nat.le_succ _))
  by_cases hq : nr = true ∧ n ≠ 0 ∧ kd ≤ 8
  · obtain ⟨rfl, hn0, h8⟩ := hq
    have hnb : ((n : Int) == 0) = false := by simp; omega
    have h8b : decide (8 < kd) = false := by simp; omega
    obtain ⟨a, ha, hia⟩ := tmod_cases i n (by omega)
    obtain ⟨c, hc, hkc⟩ := tmod_cases k n (by omega)
    obtain ⟨x, hx⟩ : ∃ x, i.tmod n = x := ⟨_, rfl⟩
    obtain ⟨y, hy⟩ : ∃ y, k.tmod n = y := ⟨_, rfl⟩
    rw [hx] at hia
    rw [hy] at hkc
    have hwx : IntKind.i64.wrap (-x) = -x := IntWalk.i64_in _ (by omega)
    have hwy : IntKind.i64.wrap (-y) = -y := IntWalk.i64_in _ (by omega)
    have HXR := Lib.hid (show -1024 ≤ x ∧ x ≤ 1024 by omega)
    have HYR := Lib.hid (show -1024 ≤ y ∧ y ≤ 1024 by omega)
    have HB := Lib.hid hB
    have HK := Lib.hid hk
    clear hB hia hkc ha hc hi hk h8 hn
    go_enter Tryz.func15, Tryz.ntmps15
    go_upto_if 25 with fail
    go_cut [] (fun wx => ∃ i', (-1024 ≤ i' ∧ i' ≤ 1024) ∧ wx = (w.alloc (.cells (cellN ⟨kd, true, m, i', k⟩ tA tc oA oc) 39)).alloc (.cells zeroN 39))
    case first =>
      by_cases hs : x < 0
      · go_wp2_with fail
        go_meet
        exact ⟨-x, by have := HXR.out; omega, rfl⟩
      · go_wp2_with fail
        go_meet
        exact ⟨x, HXR.out, rfl⟩
    case rest =>
    obtain ⟨i', hi', rfl⟩ := hcut
    have HI := Lib.hid hi'
    clear hi' hx
    go_upto_if 32 with fail
    go_cut [] (fun wx => ∃ k', (-9223372036854775808 ≤ k' ∧ k' ≤ 9223372036854775807) ∧ wx = (w.alloc (.cells (cellN ⟨kd, true, m, i', k'⟩ tA tc oA oc) 39)).alloc (.cells zeroN 39))
    case first =>
      by_cases h6 : kd = 6
      · have h6b : (kd == 6) = true := by rw [h6]; rfl
        have HK6 := Lib.hid h6
        clear h6
        by_cases hs : y < 0
        · go_wp2_with fail
          go_meet
          exact ⟨-y, by have := HYR.out; omega, rfl⟩
        · go_wp2_with fail
          go_meet
          exact ⟨y, by have := HYR.out; omega, rfl⟩
      · have h6b : (kd == 6) = false := by rw [beq_eq_false_iff_ne]; exact h6
        go_wp2_with fail
        go_meet
        exact ⟨k, HK.out, rfl⟩
    case rest =>
    obtain ⟨k', hk', rfl⟩ := hcut
    have HK2 := Lib.hid hk'
    clear hk' hy
    go_wp2_with fail
    refine bodyPost_ret (v := .agg (cellN ⟨kd, true, m, i', k'⟩ tA tc oA oc)) (by simp [results, Tryz.results15, go_sem]) rfl ?_
    exact ⟨i', k', rfl, by have := HI.out; omega, HK2.out, HB.out i' k' _⟩
  · have hend : nr = false ∨ (nr = true ∧ n = 0) ∨ (nr = true ∧ n ≠ 0 ∧ 8 < kd) := by
      cases nr with
      | false => exact .inl rfl
      | true =>
        by_cases h0 : n = 0
        · exact .inr (.inl ⟨rfl, h0⟩)
        · exact .inr (.inr ⟨rfl, h0, by
            by_cases h8 : 8 < kd
            · exact h8
            · exact absurd ⟨rfl, h0, by omega⟩ hq⟩)
    have HB := Lib.hid hB
    have HI := Lib.hid (And.intro hi hk)
    clear hq hB hi hk hn
    rcases hend with rfl | ⟨rfl, rfl⟩ | ⟨rfl, hn0, h8⟩
    · go_enter Tryz.func15, Tryz.ntmps15
      go_wp2_with fail
      refine bodyPost_ret (v := .agg (cellN ⟨kd, false, m, i, k⟩ tA tc oA oc)) (by simp [results, Tryz.results15, go_sem]) rfl ?_
      exact ⟨i, k, rfl, HI.out.1, HI.out.2, HB.out i k _⟩
    · go_enter Tryz.func15, Tryz.ntmps15
      go_wp2_with fail
      refine bodyPost_ret (v := .agg (cellN ⟨kd, true, m, i, k⟩ tA tc oA oc)) (by simp [results, Tryz.results15, go_sem]) rfl ?_
      exact ⟨i, k, rfl, HI.out.1, HI.out.2, HB.out i k _⟩
    · have hnb : ((n : Int) == 0) = false := by simp; omega
      have h8b : decide (8 < kd) = true := by simp; omega
      go_enter Tryz.func15, Tryz.ntmps15
      go_wp2_with fail
      refine bodyPost_ret (v := .agg (cellN ⟨kd, true, m, i, k⟩ tA tc oA oc)) (by simp [results, Tryz.results15, go_sem]) rfl ?_
      exact ⟨i, k, rfl, HI.out.1, HI.out.2, HB.out i k _⟩
end Go.Proofs.YtmbonngjkgcijaaGreatDoor
