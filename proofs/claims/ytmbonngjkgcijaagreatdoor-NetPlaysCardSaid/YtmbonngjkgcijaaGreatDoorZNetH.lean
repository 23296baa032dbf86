/- The net: Waits, Packet, Drop, Hold, Move, Tick. The net: Tick. -/
import Derived.Test.YtmbonngjkgcijaaGreatDoorZPosB
set_option linter.unusedSimpArgs false
set_option linter.unusedVariables false
set_option linter.unnecessarySimpa false
namespace Go.Proofs.YtmbonngjkgcijaaGreatDoor
open Go.RowKit Go.Shelf
section
variable {w : World} {b : Nat} {most : Int} {v : Value} {L : List Pk} {mp : Nat} {C : List MapEntry} {c : Nat} {ro : Nat → Nat}
theorem NetAt.by (h : NetAt w b most v L mp C c ro) {x : Pk} (hx : x ∈ L) : OwnBy w 0 x.v x.bs := .inr ⟨x.g, x.cap, rfl, h.by_ x hx⟩
theorem Glob.step {W : World} {ro ro' : Nat → Nat} (hG : Glob w) (h0 : ro 1 = 0) (hs : Step w W ro ro') : Glob W := hG.touch hs.1 (fun e => e h0)
theorem Mov.step {W : World} {ro ro' : Nat → Nat} (hM : Mov w) (h0 : ro 0 = 0) (hs : Step w W ro ro') : Mov W := fun r t ht => (World.cell?_of_block (a := ⟨0, r, none⟩) (hs.1.block _ hM.lt (fun e => e h0))).trans (hM r t ht)
theorem nWaits_ok (h : NetAt w b most v L mp C c ro) {i : Nat} {x : Pk} (hi : L[i]? = some x) : Calls Tryz.prog 34 #[.pointer (some ⟨b, 0, none⟩), .int .i64 i] w fun e w' => e = .returned (.int .i64 x.waits) ∧ w' = w := by
  have HF := Lib.hid (nfind_ok h hi)
  have hc := cell_of (h.pk x (List.mem_of_getElem? hi)) 2
  unfold Pk.cells at hc
  unfold Pk.ptr at HF
  simp at hc
  clear h hi
  go_enter Tryz.func34, Tryz.ntmps34
  go_wp2_with fail
  refine (HF.out).mono ?_
  rintro e w1 ⟨rfl, rfl⟩
  go_wp2_with fail
  go_ret
  exact ⟨rfl, rfl⟩
theorem nPacket_ok (h : NetAt w b most v L mp C c ro) {i : Nat} {x : Pk} (hi : L[i]? = some x) : Calls Tryz.prog 21 #[.pointer (some ⟨b, 0, none⟩), .int .i64 i] w fun e w' => ∃ v', e = .returned v' ∧ OwnBy w' w.heap.size v' x.bs ∧ Below w.heap.size w w' := by
  have HF := Lib.hid (nfind_ok h hi)
  have hx := List.mem_of_getElem? hi
  have hc := cell_of (h.pk x hx) 0
  have HC := Lib.hid (clone_any (h.by hx).bis (by have := (h.few.2 x hx).2; omega))
  unfold Pk.cells at hc
  unfold Pk.ptr at HF
  unfold Pk.v at HC hc
  simp at hc
  clear h hi hx
  go_enter Tryz.func21, Tryz.ntmps21
  go_wp2_with fail
  refine (HF.out).mono ?_
  rintro e w1 ⟨rfl, rfl⟩
  go_wp2_with fail
  refine (HC.out).mono ?_
  rintro e w2 ⟨v2, rfl, ho, hb⟩
  have HO := Lib.hid (And.intro ho hb)
  clear ho hb
  go_wp2_with fail
  go_ret
  exact ⟨_, rfl, HO.out.1, HO.out.2⟩
theorem codeNil (hG : Glob w) : Calls Tryz.prog 48 #[.nilIface] w fun e w' => e = .returned (.int .i64 0) ∧ Below w.heap.size w w' :=
  code_any (w := w) (W := w) (c := []) (v := .nilIface) hG rfl (fun e h => by cases h) (by simp) (Below.refl _ _)
theorem NetP.after {P : List P3} {W W' : World} (h : NetP w b most mp C c ro P W) (hb : Below W.heap.size W W') : NetP w b most mp C c ro P W' := by
  obtain ⟨v', ro', L', h1, h2, h3⟩ := h
  exact ⟨v', ro', L', h1.below hb, h2.after hb, h3⟩
theorem Step.same {W : World} {S : Nat → Prop} (h : Touch S w W) (hS : ∀ k, S k → ro k ≠ 0) : Step w W ro ro := ⟨h.mono (fun k _ => hS k), fun _ _ => rfl⟩
theorem map_erase (L : List Pk) (i : Nat) : (L.eraseIdx i).map Pk.p = (L.map Pk.p).eraseIdx i := by
  induction L generalizing i with
  | nil => rfl
  | cons x r ih => cases i with
    | zero => rfl
    | succ i => simp [ih]
theorem nDrop_ok (hG : Glob w) (h0 : ro 1 = 0) (h : NetAt w b most v L mp C c ro) {i : Nat} (hi : i < L.length) : Calls Tryz.prog 25 #[.pointer (some ⟨b, 0, none⟩), .int .i64 i] w fun e w' => e = .returned (.int .i64 0) ∧ NetP w b most mp C c ro ((L.map Pk.p).eraseIdx i) w' := by
  have hx : L[i]? = some L[i] := List.getElem?_eq_getElem hi
  generalize L[i] = x at hx
  have HF := Lib.hid (nfind_ok h hx)
  have HT := Lib.hid (ntake_any h hi)
  have HG := Lib.hid (And.intro hG h0)
  unfold Pk.ptr at HF
  clear hx h hi hG h0
  go_enter Tryz.func25, Tryz.ntmps25
  go_wp2_with fail
  refine (HF.out).mono ?_
  rintro e w1 ⟨rfl, rfl⟩
  go_wp2_with fail
  refine (HT.out).mono ?_
  rintro e w2 ⟨v2, rfl, hn, ht⟩
  have hst := Step.same (ro := ro) ht (fun k e => by omega)
  have HP : Hid (NetP w1 b most mp C c ro ((L.map Pk.p).eraseIdx i) w2) := Lib.hid ⟨v2, ro, _, hn, hst, map_erase L i⟩
  have HC := Lib.hid (codeNil (HG.out.1.step HG.out.2 hst))
  clear hn ht hst
  go_wp2_with fail
  refine (HC.out).mono ?_
  rintro e w3 ⟨rfl, hb⟩
  have HP3 := Lib.hid (HP.out.after hb)
  clear hb
  go_wp2_with fail
  go_ret
  exact ⟨rfl, HP3.out⟩
/-- A packet of the net changes in place: its wait. -/
theorem set_get {α : Type} {l : List α} {i j : Nat} {x y : α} (hi : l[i]? = some x) : (l.set i y)[j]? = if j = i then some y else l[j]? := by
  have := (List.getElem?_eq_some_iff.1 hi).1
  rw [List.getElem?_set]
  by_cases h : i = j
  · subst h; rw [if_pos rfl, if_pos rfl, if_pos this]
  · rw [if_neg h, if_neg (fun e => h e.symm)]
/-- The net with another packet at the same place: x' lies where x lay. -/
theorem NetAt.edit (h : NetAt w b most v L mp C c ro) {W : World} {i : Nat} {x x' : Pk} {S : Nat → Prop} (hi : L[i]? = some x) (hp : x'.pb = x.pb) (hg : x'.g = x.g) (hk : x'.cap = x.cap) (ht : Touch S w W) (hS : ∀ k, S k → k = x.pb ∨ k = x.g) (hpk : W.heap[x.pb]? = some (.cells x'.cells 125 (0, 0))) (hby : OwnC W 0 x.g x.cap x'.bs) (hn : x'.bs ≠ [] ∧ x'.bs.length ≤ 20000) : NetAt W b most v (L.set i x') mp C c ro := by
  have hx := List.mem_of_getElem? hi
  have hS2 : ∀ k, S k → ro k = 4 ∨ ro k = 5 := fun k hk => by
    rcases hS k hk with e | e
    · exact .inl (by rw [e]; exact (h.rp x hx).1)
    · exact .inr (by rw [e]; exact (h.rp x hx).2)
  have hkp : ∀ {k r : Nat}, ro k = r → (r = 1 ∨ r = 2 ∨ r = 3) → k < w.heap.size → W.heap[k]? = w.heap[k]? := fun {k r} hk hr hlt => ht.block k hlt (fun q => by have := hS2 k q; omega)
  have hcase : ∀ e ∈ L.set i x', e = x' ∨ (e ∈ L ∧ e.pb ≠ x.pb ∧ e.g ≠ x.g) := fun e he => by
    obtain ⟨j, hj⟩ := List.getElem?_of_mem he
    rw [set_get hi] at hj
    split at hj
    · exact .inl (Option.some.inj hj).symm
    · next hne => exact .inr ⟨List.mem_of_getElem? hj, fun q => hne (h.onep j i e x hj hi q), fun q => hne (h.oneg j i e x hj hi q)⟩
  have hpt : ptrs (L.set i x') = ptrs L := by
    apply List.ext_getElem?
    intro j
    rw [List.getElem?_map, List.getElem?_map, set_get hi]
    split
    · next e => subst e; rw [hi]; show some x'.ptr = some x.ptr; unfold Pk.ptr; rw [hp]
    · rfl
  have hone : ∀ {α : Type} (f : Pk → α) (_ : f x' = f x) (p q : Nat) (y z : Pk), (∀ (i j : Nat) (x y : Pk), L[i]? = some x → L[j]? = some y → f x = f y → i = j) → (L.set i x')[p]? = some y → (L.set i x')[q]? = some z → f y = f z → p = q := fun f hf p q y z hL hy hz e => by
    rw [set_get hi] at hy hz
    split at hy
    · next e1 =>
      cases hy
      split at hz
      · next e2 => rw [e1, e2]
      · rw [e1]; exact hL i q x z hi hz (hf.symm.trans e)
    · split at hz
      · next e2 => cases hz; rw [e2]; exact hL p i y x hy hi (e.trans hf)
      · exact hL p q y z hy hz e
  refine ⟨(hkp h.rb (by decide) (heap_lt h.head)).trans h.head, ?_, fun e he => ?_, fun e he => ?_, ⟨by rw [List.length_set]; exact h.few.1, fun e he => ?_⟩, h.map.keep (hkp h.rm (by decide) h.map.lt), h.rb, h.rm, h.rr, fun e he => ?_, fun k hk => Nat.lt_of_lt_of_le (h.lt k hk) ht.size, fun p q y z hy hz e => hone Pk.pb hp p q y z h.onep hy hz e, fun p q y z hy hz e => hone Pk.g hg p q y z h.oneg hy hz e⟩
  · rw [List.length_set, hpt]
    exact h.row.touch ht (fun g hg2 e => by have := hS2 g e; have := h.rr g hg2; omega)
  · rcases hcase e he with rfl | ⟨h1, h2, h3⟩
    · rw [hp]; exact hpk
    · exact (ht.block _ (heap_lt (h.pk e h1)) (fun q => by
        rcases hS _ q with q | q
        · exact h2 q
        · have a1 := (h.rp e h1).1; have a2 := (h.rp x hx).2; rw [q, a2] at a1; cases a1)).trans (h.pk e h1)
  · rcases hcase e he with rfl | ⟨h1, h2, h3⟩
    · rw [hg, hk]; exact hby
    · exact (h.by_ e h1).keep ht.size (ht.block _ (h.by_ e h1).lt (fun q => by
        rcases hS _ q with q | q
        · have a1 := (h.rp e h1).2; have a2 := (h.rp x hx).1; rw [q, a2] at a1; cases a1
        · exact h3 q))
  · rcases hcase e he with rfl | ⟨h1, _⟩
    · exact hn
    · exact h.few.2 e h1
  · rcases hcase e he with rfl | ⟨h1, _⟩
    · rw [hp, hg]; exact h.rp x hx
    · exact h.rp e h1
theorem NetAt.wait (h : NetAt w b most v L mp C c ro) {i : Nat} {x : Pk} (hi : L[i]? = some x) (k : Int) : NetAt (w.setCell ⟨x.pb, 2, none⟩ (.int .i64 k)) b most v (L.set i { x with waits := k }) mp C c ro ∧ Step w (w.setCell ⟨x.pb, 2, none⟩ (.int .i64 k)) ro ro := by
  have hx := List.mem_of_getElem? hi
  have hT : Touch (fun k => k = x.pb) w (w.setCell ⟨x.pb, 2, none⟩ (.int .i64 k)) := (Touch.refl (fun k => k = x.pb) w).setCell ⟨x.pb, 2, none⟩ (fun _ => rfl) _
  have hne : x.g ≠ x.pb := fun e => by have a1 := (h.rp x hx).1; have a2 := (h.rp x hx).2; rw [e, a1] at a2; cases a2
  refine ⟨h.edit hi rfl rfl rfl hT (fun _ e => .inl e) (set_at (h.pk x hx) 2 _) ((h.by_ x hx).keep hT.size (hT.block _ (h.by_ x hx).lt hne)) (h.few.2 x hx), Step.same hT (fun k e => ?_)⟩
  rw [e, (h.rp x hx).1]; decide
theorem map_set (L : List Pk) (i : Nat) (x : Pk) : (L.set i x).map Pk.p = (L.map Pk.p).set i x.p := List.map_set
/-- in of no error. -/
theorem nwin_ok {lo hi n : Int} (h1 : lo ≤ n) (h2 : n ≤ hi) (W : World) : Calls Tryz.prog 47 #[.int .i64 lo, .int .i64 hi, .int .i64 n] W fun e w' => e = .returned .nilIface ∧ w' = W := nwithin_ok h1 h2
set_option maxRecDepth 100000 in
set_option maxHeartbeats 2000000 in
theorem nHold_ok (hG : Glob w) (h0 : ro 1 = 0) (h : NetAt w b most v L mp C c ro) {i : Nat} {x : Pk} (hi : L[i]? = some x) {k : Int} (hk : 0 ≤ k ∧ k ≤ 1000) : Calls Tryz.prog 28 #[.pointer (some ⟨b, 0, none⟩), .int .i64 i, .int .i64 k] w fun e w' => e = .returned (.int .i64 0) ∧ NetP w b most mp C c ro ((L.map Pk.p).set i (x.bs, x.site, k)) w' := by
  have HF := Lib.hid (nfind_ok h hi)
  have HW := Lib.hid (nwin_ok hk.1 hk.2 w)
  have HIN := Lib.hid (fun W => in_nil ⟨#[116, 105, 99, 107, 115]⟩ W)
  have hnet := h.wait hi k
  have HN : Hid (NetP w b most mp C c ro ((L.map Pk.p).set i (x.bs, x.site, k)) (w.setCell ⟨x.pb, 2, none⟩ (.int .i64 k))) := Lib.hid ⟨v, ro, _, hnet.1, hnet.2, map_set L i _⟩
  have HC := Lib.hid (codeNil (hG.step h0 hnet.2))
  have hhd := h.pk x (List.mem_of_getElem? hi)
  have hf := free0 hhd 2
  have hc := cell_of hhd 2
  unfold Pk.cells at hc
  unfold Pk.ptr at HF
  simp at hc
  clear h hi hG h0 hhd hnet hk
  go_enter Tryz.func28, Tryz.ntmps28
  go_wp2_with fail
  refine (HF.out).mono ?_
  rintro e w1 ⟨rfl, rfl⟩
  go_wp2_with fail
  refine (HW.out).mono ?_
  rintro e w2 ⟨rfl, rfl⟩
  go_wp2_with fail
  refine (HIN.out _).mono ?_
  rintro e w3 ⟨rfl, rfl⟩
  go_wp2_with fail
  refine (HC.out).mono ?_
  rintro e w4 ⟨rfl, hb⟩
  have HN4 := Lib.hid (HN.out.after hb)
  clear hb
  go_wp2_with fail
  go_ret
  exact ⟨rfl, HN4.out⟩
theorem Beside.of (h : NetAt w b most v L mp C c ro) {i : Nat} {x : Pk} (hi : L[i]? = some x) {W : World} {v' : Value} (hn : NetAt W b most v' (L.eraseIdx i) mp C c ro) (ht : Touch (fun k => ro k = 1 ∨ ro k = 3) w W) : Beside W (L.eraseIdx i) ro x := by
  have hx := List.mem_of_getElem? hi
  have h1 := h.rp x hx
  refine ⟨(ht.block _ (heap_lt (h.pk x hx)) (fun q => by omega)).trans (h.pk x hx), (h.by_ x hx).keep ht.size (ht.block _ (h.by_ x hx).lt (fun q => by omega)), h.few.2 x hx, h1, fun e he => ?_⟩
  obtain ⟨j, hj⟩ := List.getElem?_of_mem he
  rw [erase_get] at hj
  have key : ∀ {j : Nat}, L[j]? = some e → j ≠ i → e.pb ≠ x.pb ∧ e.g ≠ x.g := fun hj hne => ⟨fun q => hne (h.onep _ _ _ _ hj hi q), fun q => hne (h.oneg _ _ _ _ hj hi q)⟩
  split at hj
  · exact key hj (by omega)
  · exact key hj (by omega)
theorem map_ins (L : List Pk) (i : Nat) (x : Pk) : (L.insertIdx i x).map Pk.p = (L.map Pk.p).insertIdx i x.p := by
  induction L generalizing i with
  | nil => cases i <;> rfl
  | cons y r ih => cases i with
    | zero => rfl
    | succ i => simp [ih]
set_option maxRecDepth 100000 in
set_option maxHeartbeats 2000000 in
theorem nMove_ok (hG : Glob w) (h0 : ro 1 = 0) (h : NetAt w b most v L mp C c ro) {i k : Nat} {x : Pk} (hi : L[i]? = some x) (hk : k < L.length) : Calls Tryz.prog 27 #[.pointer (some ⟨b, 0, none⟩), .int .i64 i, .int .i64 k] w fun e w' => e = .returned (.int .i64 0) ∧ NetP w b most mp C c ro (((L.map Pk.p).eraseIdx i).insertIdx k x.p) w' := by
  have HF := Lib.hid (nfind_ok h hi)
  have HLE := Lib.hid (nlen_any h)
  have hlt := (List.getElem?_eq_some_iff.1 hi).1
  have HW := Lib.hid (nwin_ok (lo := 0) (hi := (L.length : Int) - 1) (n := (k : Int)) (by omega) (by omega) w)
  have HIN := Lib.hid (fun W => in_nil ⟨#[112, 108, 97, 99, 101]⟩ W)
  have HT := Lib.hid (ntake_any h hlt)
  have hwr : IntKind.i64.wrap ((L.length : Int) - 1) = (L.length : Int) - 1 := IntWalk.i64_in _ (by have := h.few.1; omega)
  have HH := Lib.hid h
  have HI := Lib.hid (And.intro hi (And.intro hlt hk))
  have HG := Lib.hid (And.intro hG h0)
  unfold Pk.ptr at HF
  clear h hi hG h0 hk hlt
  go_enter Tryz.func27, Tryz.ntmps27
  go_wp2_with fail
  refine (HF.out).mono ?_
  rintro e w1 ⟨rfl, rfl⟩
  go_wp2_with fail
  refine (HLE.out).mono ?_
  rintro e w2 ⟨rfl, rfl⟩
  go_wp2_with fail
  refine (HW.out).mono ?_
  rintro e w2 ⟨rfl, rfl⟩
  go_wp2_with fail
  refine (HIN.out _).mono ?_
  rintro e w3 ⟨rfl, rfl⟩
  go_wp2_with fail
  refine (HT.out).mono ?_
  rintro e w4 ⟨v4, rfl, hn4, ht4⟩
  have hst4 := Step.same (ro := ro) ht4 (fun k e => by omega)
  have hbes := Beside.of HH.out HI.out.1 hn4 ht4
  have hel : (L.eraseIdx i).length = L.length - 1 := by rw [List.length_eraseIdx, if_pos HI.out.2.1]
  have HP := Lib.hid (nput_any hn4 hbes (i := k) (by rw [hel]; have := HI.out.2.2; omega) (by rw [hel]; have := HH.out.few.1; omega))
  have HST4 := Lib.hid hst4
  unfold Pk.ptr at HP
  clear hn4 ht4 hst4 hbes hel
  go_wp2_with fail
  refine (HP.out).mono ?_
  rintro e w5 ⟨rfl, v5, ro5, hn5, hs5⟩
  have hs15 := HST4.out.trans hs5
  have HPP : Hid (NetP w2 b most mp C c ro (((L.map Pk.p).eraseIdx i).insertIdx k x.p) w5) := Lib.hid ⟨v5, ro5, _, hn5, hs15, by rw [map_ins, map_erase]⟩
  have HC := Lib.hid (codeNil (HG.out.1.step HG.out.2 hs15))
  clear hn5 hs5 hs15
  go_wp2_with fail
  refine (HC.out).mono ?_
  rintro e w6 ⟨rfl, hb⟩
  have HPF := Lib.hid (HPP.out.after hb)
  clear hb
  go_wp2_with fail
  go_ret
  exact ⟨rfl, HPF.out⟩
end
end Go.Proofs.YtmbonngjkgcijaaGreatDoor

namespace Go.Proofs.YtmbonngjkgcijaaGreatDoor
open Go.RowKit Go.Shelf
section
variable {w : World} {b : Nat} {most : Int} {v : Value} {L : List Pk} {mp : Nat} {C : List MapEntry} {c : Nat} {ro : Nat → Nat}
def tickP (p : P3) : P3 := (p.1, p.2.1, max (p.2.2 - 1) 0)
def Pk.tick (x : Pk) : Pk := { x with waits := max (x.waits - 1) 0 }
set_option maxRecDepth 100000 in
set_option maxHeartbeats 4000000 in
theorem nTick_any (h : NetAt w b most v L mp C c ro) (hw : ∀ e ∈ L, 0 ≤ e.waits ∧ e.waits ≤ 1000) : Calls Tryz.prog 30 #[.pointer (some ⟨b, 0, none⟩)] w fun e w' => e = .returned (.tuple #[]) ∧ NetP w b most mp C c ro ((L.map Pk.p).map tickP) w' := by
  obtain ⟨n, hn⟩ : ∃ n, L.length = n := ⟨_, rfl⟩
  have HLE := Lib.hid (nlen_any h)
  rw [hn] at HLE
  have HH := Lib.hid h
  have HW := Lib.hid hw
  have HN := Lib.hid (And.intro hn h.few.1)
  clear h hw hn
  go_enter Tryz.func30, Tryz.ntmps30
  go_wp2_with fail
  refine (HLE.out).mono ?_
  rintro e w1 ⟨rfl, rfl⟩
  go_wp2_with fail
  go_loopw [6] (fun iv wr => ∃ k : Nat, k ≤ n ∧ iv = .int .i64 k ∧ NetAt wr b most v ((L.take k).map Pk.tick ++ L.drop k) mp C c ro ∧ Step w1 wr ro ro) (fun iv _ => n - (intOf iv).toNat)
  case atStart => exact ⟨0, by omega, rfl, by simpa using HH.out, Step.refl _ _⟩
  case round =>
    obtain ⟨k, hk, rfl, hnet, hst⟩ := hrel
    have HS := Lib.hid (And.intro hnet hst)
    by_cases hlt : k < n
    · have hx : L[k]? = some (L[k]'(by have := HN.out.1; omega)) := List.getElem?_eq_getElem _
      generalize L[k]'(by have := HN.out.1; omega) = x at hx
      have e1 : ((L.take k).map Pk.tick).length = k := by rw [List.length_map, List.length_take]; have := HN.out.1; omega
      have hx2 : ((L.take k).map Pk.tick ++ L.drop k)[k]? = some x := by
        rw [List.getElem?_append_right (by rw [e1]; exact Nat.le_refl _), e1, Nat.sub_self, List.getElem?_drop]
        exact hx
      have hset : ((L.take k).map Pk.tick ++ L.drop k).set k x.tick = (L.take (k + 1)).map Pk.tick ++ L.drop (k + 1) := by
        rw [List.set_append, if_neg (by rw [e1]; omega), e1, Nat.sub_self, List.take_add_one, hx, List.map_append, List.append_assoc, show L.drop k = x :: L.drop (k + 1) from by
          rw [List.drop_eq_getElem_cons (by have := HN.out.1; omega), (List.getElem?_eq_some_iff.1 hx).2]]
        rfl
      have hb2 := HW.out x (List.mem_of_getElem? hx)
      have hwait := hnet.wait hx2 (max (x.waits - 1) 0)
      have HWA := Lib.hid hwait
      have HSET := Lib.hid hset
      have hpk := hnet.pk x (List.mem_of_getElem? hx2)
      unfold Pk.cells at hpk
      have hcb := hnet.cell1
      have hc2 := cell_of hpk 2
      have hf2 := free0 hpk 2
      simp at hc2
      have hll : ((L.take k).map Pk.tick ++ L.drop k).length = n := by rw [List.length_append, e1, List.length_drop]; have := HN.out.1; omega
      have hrow := hnet.row
      rw [hll] at hrow
      obtain ⟨A, cp, rfl, _, _, _, _, h5⟩ := hrow.form
      obtain ⟨g, rfl, k0⟩ := h5 k _ (ptrs_get hx2)
      unfold Pk.ptr at k0
      have hwx : IntKind.i64.wrap (x.waits - 1) = x.waits - 1 := IntWalk.i64_in _ (by omega)
      have hwk : IntKind.i64.wrap ((k : Int) + 1) = (k : Int) + 1 := IntWalk.i64_in _ (by have := HN.out.2; have := HN.out.1; omega)
      have HLT := Lib.hid hlt
      clear hx hx2 hset hb2 hwait hnet hst hpk h5 hrow hll e1
      go_wp2_with fail
      exact ⟨⟨k + 1, HLT.out, by go_num, by rw [← HSET.out]; exact HWA.out.1, HS.out.2.trans HWA.out.2⟩, by have := HLT.out; simp [intOf]; omega⟩
    · obtain rfl : k = n := by omega
      clear hnet hst
      go_wp2_with fail
      go_end0
      have h1 := HS.out
      rw [List.take_of_length_le (by rw [HN.out.1]; exact Nat.le_refl _), List.drop_of_length_le (by rw [HN.out.1]; exact Nat.le_refl _), List.append_nil] at h1
      exact ⟨rfl, v, ro, _, h1.1, h1.2, by rw [List.map_map, List.map_map]; rfl⟩
end
end Go.Proofs.YtmbonngjkgcijaaGreatDoor
