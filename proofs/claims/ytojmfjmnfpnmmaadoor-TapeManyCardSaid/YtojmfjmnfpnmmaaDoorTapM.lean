/- The tape: Drop. -/
import Derived.Test.YtojmfjmnfpnmmaaDoorTapL
set_option linter.unusedSimpArgs false
set_option linter.unusedVariables false
set_option linter.unnecessarySimpa false
namespace Go.Proofs.YtojmfjmnfpnmmaaDoor
open Go.RowKit

/-- A segment is taken out of the map. -/
theorem TapeAt.cut {w w' : World} {t : Nat} {T : Tp} (h : TapeAt w t T) {m : Nat} (hm : T.m = some m) {j : Nat} {e : Ent} (hj : T.L[j]? = some e) (hs : w.heap.size ≤ w'.heap.size) (hk : ∀ k, k < w.heap.size → k ≠ m → w'.heap[k]? = w.heap[k]?)
    (hM : MapIs Tryd.prog 3 w' m ((T.L.map Ent.me).eraseIdx j) T.clock) : TapeAt w' t { T with L := T.L.eraseIdx j } := by
  have hmt : t ≠ m := fun e => h.sep.tm (by rw [hm, e])
  have hsub := List.eraseIdx_sublist T.L j
  refine ⟨(hk t h.ltT hmt).trans h.head, ?_, fun x hx => (h.segs x (hsub.subset hx)).keep hs fun k hkx => hk k (h.ltE x (hsub.subset hx) k hkx) (fun e1 => (h.sep.te x (hsub.subset hx) k hkx).2 (by rw [hm, e1])), h.sep.erase j, Nat.le_trans hsub.length_le h.few, ?_, h.room, h.left⟩
  · show MapPart w' T.m (T.L.eraseIdx j) T.clock
    rw [hm]
    show MapIs _ _ w' m ((T.L.eraseIdx j).map Ent.me) T.clock
    have : (T.L.eraseIdx j).map Ent.me = (T.L.map Ent.me).eraseIdx j := by
      refine List.ext_getElem? fun i => ?_
      simp only [List.getElem?_map, List.getElem?_eraseIdx]
      split <;> simp
    rw [this]
    exact hM
  · have := used_erase hj
    have := h.used
    show Go.Proofs.YtojmfjmnfpnmmaaDoor.used (T.L.eraseIdx j) ≤ _
    omega
set_option maxRecDepth 100000 in
theorem drop_do {w : World} {ba bs t m : Nat} {seg : Int} {o : Obj} (h0 : w.cell? ⟨ba, 0, none⟩ = some (.pointer (some ⟨t, 0, none⟩))) (h1 : w.cell? ⟨bs, 0, none⟩ = some (.int .i64 seg)) (h2 : w.cell? ⟨t, 0, none⟩ = some (.map (some m)))
    (hd : ∀ ty, (Builtin.delete_ #[54, 3] ty #[.map (some m), .int .i64 seg]).run Tryd.prog w.drew = .ok (.tuple #[]) { w.drew with heap := w.drew.heap.setIfInBounds m o }) :
    Calls Tryd.prog 37 #[.pointer (some ⟨ba, 0, none⟩), .pointer (some ⟨bs, 0, none⟩)] w fun e w' => e = .returned (.tuple #[]) ∧ w' = { w.drew with heap := w.drew.heap.setIfInBounds m o } := by
  go_enter Tryd.func37, Tryd.ntmps37
  go_wp2_with fail
  go_region
  all_goals
    go_wp2
    go_end0
    exact ⟨rfl, rfl⟩
/-- What a drop leaves. -/
def dropT (T : Tp) (j : Nat) : Tp := { burnt T with L := T.L.eraseIdx j }
set_option maxRecDepth 100000 in
set_option maxHeartbeats 2000000 in
theorem drop_ok {w : World} {t : Nat} {T : Tp} (hG : Glob w) (hT : TapeAt w t T) {seg : Int} (hE : readyE T seg = 0) {j : Nat} {e : Ent} (hj : T.L[j]? = some e) (he : e.n = seg) (hs : spent T = false) (hg : 1 ∉ T.blocks t) :
    Calls Tryd.prog 12 #[.pointer (some ⟨t, 0, none⟩), .int .i64 seg] w fun x w' => x = .returned (.int .i64 0) ∧ TapeAt w' t (dropT T j) ∧ Touch (fun k => k ∈ T.blocks t) w w' := by
  have hlt := hT.lt
  obtain ⟨m, hm⟩ : ∃ m, T.m = some m := by
    have := hT.map
    cases h : T.m with
    | none => rw [h] at this; rw [show T.L = [] from this] at hj; cases hj
    | some m => exact ⟨m, rfl⟩
  have HO := Lib.hid (open_hit (hT.below (dropW_below w (some ⟨t, 0, none⟩) seg)) hE hj he)
  have HB0 := Lib.hid (dropW_below w (some ⟨t, 0, none⟩) seg)
  obtain ⟨k0, k1⟩ := dropW_cells w (some ⟨t, 0, none⟩) seg
  have HCL := Lib.hid (fun W (hW : Below (dropW w (some ⟨t, 0, none⟩) seg).heap.size (dropW w (some ⟨t, 0, none⟩) seg) W) => And.intro ((hW.cell (p := ⟨w.heap.size, 0, none⟩) (by rw [dropW_size]; simp only; omega)).trans k0) ((hW.cell (p := ⟨w.heap.size + 1, 0, none⟩) (by rw [dropW_size]; simp only; omega)).trans k1))
  have hmf : ∀ (fn : Fn) (first cap : Array Value) (w : World), (Instr.makeFunc fn first cap).run Tryd.prog w = .ok (.func fn first cap) w := fun _ _ _ _ => rfl
  have hn := (readyE_zero hE).1
  have HCH : Hid (∀ W, Below w.heap.size w W → w.heap.size + 1 < W.heap.size → W.cell? ⟨w.heap.size, 0, none⟩ = some (.pointer (some ⟨t, 0, none⟩)) → W.cell? ⟨w.heap.size + 1, 0, none⟩ = some (.int .i64 seg) →
      Calls Tryd.prog 32 #[.pointer (some ⟨t, 0, none⟩), .nilIface, .func (.func 37) #[] #[.pointer (some ⟨w.heap.size, 0, none⟩), .pointer (some ⟨w.heap.size + 1, 0, none⟩)]] W fun x w' => x = .returned (.int .i64 0) ∧ (TapeAt w' t (dropT T j) ∧ Touch (fun k => k ∈ T.blocks t) w w') ∧ w.heap.size < w'.heap.size ∧ w'.cell? ⟨w.heap.size, 0, none⟩ = some (.pointer (some ⟨t, 0, none⟩))) := fun W hW hsz k0 k1 => by
    obtain ⟨b1, b2, b3⟩ := burntW_at (hT.below hW)
    have hTW : Touch (fun k => k ∈ T.blocks t) w (burntW W t T) := Touch.ahead hW (b2.mono fun i _ hi => mem_blocks.2 (.inl hi))
    have hgw : ∀ w', Touch (fun k => k ∈ T.blocks t) w w' → Glob w' := fun w' h => (World.cell?_of_block (a := ⟨1, 0, none⟩) (h.block _ hG.lt hg)).trans hG
    have hltT := hT.ltT
    have hltM := hT.ltM m hm
    have hbox : ∀ k, w.heap.size ≤ k → k < W.heap.size → (burntW W t T).cell? ⟨k, 0, none⟩ = W.cell? ⟨k, 0, none⟩ := fun k hk hkW => World.cell?_of_block (a := ⟨k, 0, none⟩) (b2.block k hkW (by omega))
    refine change_drop (hG.below hW) (hT.below hW) hs (fun e => hg (mem_blocks.2 (.inl e))) (fun w' => (TapeAt w' t (dropT T j) ∧ Touch (fun k => k ∈ T.blocks t) w w') ∧ w.heap.size < w'.heap.size ∧ w'.cell? ⟨w.heap.size, 0, none⟩ = some (.pointer (some ⟨t, 0, none⟩))) (fun W1 W2 h hb => ⟨⟨h.1.1.below hb, h.1.2.after hb⟩, Nat.lt_of_lt_of_le h.2.1 hb.size, (hb.cell (p := ⟨w.heap.size, 0, none⟩) h.2.1).trans h.2.2⟩) (fun W1 h => hgw _ h.1.2) ?_
    have hj' : (burnt T).L[j]? = some e := by rw [burnt_L]; exact hj
    have hm' : (burnt T).m = some m := by rw [← hm]; unfold burnt; split <;> rfl
    have hM : MapIs Tryd.prog 3 (burntW W t T).drew m ((burnt T).L.map Ent.me) (burnt T).clock := by
      have := b1.map
      rw [hm'] at this
      exact MapIs.keep this rfl
    have hdel := fun ty => hM.del_hit keyed Tryd.underlying54 ty (key_int hn) (me_at hj') (by rw [← he]; rfl)
    have hc0 : (burntW W t T).cell? ⟨t, 0, none⟩ = some (.map (some m)) := by
      have := cell_of b1.head 0
      rw [hm'] at this
      exact this
    refine (drop_do ((hbox _ (Nat.le_refl _) (by omega)).trans k0) ((hbox _ (by omega) hsz).trans k1) hc0 (fun ty => (hdel ty).1)).mono ?_
    rintro x w' ⟨rfl, rfl⟩
    have hmb : m ∈ T.blocks t := mem_blocks.2 (.inr (.inl hm))
    refine ⟨rfl, ⟨?_, hTW.drew.set m _ (fun _ => hmb)⟩, by rw [set_size]; show w.heap.size < (burntW W t T).heap.size; rw [b3]; omega, ?_⟩
    · have h9 := b1.cut hm' hj' (w' := { (burntW W t T).drew with heap := (burntW W t T).drew.heap.setIfInBounds m (.map (((burnt T).L.map Ent.me).eraseIdx j).toArray (burnt T).clock) }) (by rw [set_size]; exact Nat.le_refl _) (fun k _ hk => by rw [set_other (Ne.symm hk)]; rfl) (hdel 0).2
      rw [burnt_L] at h9
      unfold dropT
      rw [burnt_L]
      exact h9
    · refine (World.cell?_of_block (a := ⟨w.heap.size, 0, none⟩) ?_).trans ((hbox _ (Nat.le_refl _) (by omega)).trans k0)
      exact set_other (w := (burntW W t T).drew) (k := w.heap.size) (by omega)
  clear hG hT hE hj he hs hg k0 k1 hlt hn hm
  go_enter Tryd.func12, Tryd.ntmps12
  go_wp2_with fail
  refine (HO.out).mono ?_
  rintro x w4 ⟨rfl, hb4⟩
  have HB4 := Lib.hid (HB0.out.trans (hb4.mono HB0.out.size))
  have HC4 : Hid (∀ W, Below w4.heap.size w4 W → W.cell? ⟨w.heap.size, 0, none⟩ = some (.pointer (some ⟨t, 0, none⟩)) ∧ W.cell? ⟨w.heap.size + 1, 0, none⟩ = some (.int .i64 seg)) := fun W hW => HCL.out W (hb4.trans (hW.mono hb4.size))
  have hsz4 : w.heap.size + 1 < w4.heap.size := by
    have h1 := dropW_size w (some ⟨t, 0, none⟩) seg
    have h2 := hb4.size
    omega
  have HSZ := Lib.hid hsz4
  have hc4 := (HC4.out _ (Below.refl _ _)).1
  clear hb4 hsz4
  go_wp2_with fail
  go_region_held3 (fun W => W.cell? ⟨w.heap.size, 0, none⟩ = some (.pointer (some ⟨t, 0, none⟩))) ((first | go_keep | assumption)) (first | (go_at_call 33; refine (in_nil _ _).mono ?_; rintro e w5 ⟨rfl, rfl⟩) | (go_at_call 32; refine (HCH.out _ (below_drew HB4.out) HSZ.out (HC4.out _ (below_drew (Below.refl _ _))).1 (HC4.out _ (below_drew (Below.refl _ _))).2).mono ?_; rintro e w6 ⟨rfl, hd6, hd7, hd8⟩))
  all_goals
    go_wp2
    go_ret
    exact ⟨rfl, by assumption⟩
end Go.Proofs.YtojmfjmnfpnmmaaDoor
