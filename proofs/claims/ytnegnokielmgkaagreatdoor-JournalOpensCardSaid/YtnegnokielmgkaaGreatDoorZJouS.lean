/- The tape beside its plain words: a new one, a crash, an append. The journal: what a law does with a journal of its own. The chapter's example, in plain words. The chapter's example. -/
import Derived.Test.YtnegnokielmgkaaGreatDoorZJouO
import Derived.Test.YtnegnokielmgkaaGreatDoorZKepF
import Derived.Test.YtnegnokielmgkaaGreatDoorZTapO
import Derived.Test.YtnegnokielmgkaaGreatDoorZTapK
import Derived.Test.YtnegnokielmgkaaGreatDoorZTapQ
set_option linter.unusedSimpArgs false
set_option linter.unusedVariables false
set_option linter.unnecessarySimpa false
namespace Go.Proofs.YtnegnokielmgkaaGreatDoor
open Go.RowKit

def crashP (p : Pl) (ks : List Int) : Pl := ⟨p.room, crI p.A ks p.A.length, -1, false⟩
theorem tp_crash {w : World} {t : Nat} {T : Tp} {p : Pl} (h : TP w t T p) {kv : Value} {ks : List Int} (hks : IIs w kv ks) (hr : ∀ k ∈ ks, -9223372036854775808 ≤ k ∧ k ≤ 9223372036854775807) : Calls Tryz.prog 12 #[.pointer (some ⟨t, 0, none⟩), kv] w fun e w' => ∃ c TC, e = .returned (.pointer (some ⟨c, 0, none⟩)) ∧ TP w' c TC (crashP p ks) ∧ (∀ k ∈ TC.blocks c, w.heap.size ≤ k) ∧ Below w.heap.size w w' := by
  refine (crash_any h.tape hks hr).mono fun e w' k => ?_
  obtain ⟨c, TC, ns, e1, k1, k2, k3, k4, k5, k6, k7, k8, k9, k10⟩ := k
  obtain ⟨h1, h2⟩ := crash_eq (fun e he => (h.tape.segs e he).le) h.tape.nums h.eq.A h.rises k6 k7 ks
  have hf : fuseT TC = -1 := by unfold fuseT; rw [k3]; rfl
  have hA : (plT TC).A = crI p.A ks p.A.length := by
    show abs TC.L = _
    rw [k8, h2]
  have hroom : (plT TC).room = p.room := by
    show TC.room = _
    rw [k2]
    exact h.eq.room
  refine ⟨c, TC, e1, ⟨k1, ⟨hroom, by rw [hA]; exact List.Perm.refl _, hf, k5⟩, crI_rises h.rises ks _ (Nat.le_refl _)⟩, k9, k10⟩
theorem tp_new (n : Nat) (hn : n ≤ 1048576) (w : World) : Calls Tryz.prog 9 #[.int .i64 (n : Int)] w fun e w' => ∃ t T, e = .returned (.tuple #[.pointer (some ⟨t, 0, none⟩), .int .i64 0]) ∧ TP w' t T ⟨n, [], -1, false⟩ ∧ (∀ k ∈ T.blocks t, w.heap.size ≤ k) ∧ Below w.heap.size w w' := by
  refine (new_ok (w := w) (n := n) hn).mono fun e w' k => ?_
  obtain ⟨h1, h2, h3⟩ := k
  refine ⟨w.heap.size, newT n, h1, ⟨h2, ⟨rfl, List.Perm.refl _, rfl, rfl⟩, List.Pairwise.nil⟩, fun k hk => ?_, h3⟩
  have e : (newT n).blocks w.heap.size = [w.heap.size] := rfl
  rw [e] at hk
  rw [List.mem_singleton.1 hk]
  exact Nat.le_refl _
end Go.Proofs.YtnegnokielmgkaaGreatDoor

namespace Go.Proofs.YtnegnokielmgkaaGreatDoor
open Go.RowKit

/-- A journal of the law's own: its blocks lie behind the law's first world, and ahead of N. -/
def JAwk (w0 w : World) (N j t : Nat) (J : Js) : Prop := Glob w0 ∧ Mov w0 ∧ Below w0.heap.size w0 w ∧ N ≤ w.heap.size ∧ ∃ T sv rv xs, JAt w j t T J sv rv xs ∧ ∀ k, JB j t T rv k → w0.heap.size ≤ k ∧ k < N
theorem JAwk.keep {w0 w w' : World} {N j t : Nat} {J : Js} (h : JAwk w0 w N j t J) (hb : Below w.heap.size w w') : JAwk w0 w' N j t J := by
  obtain ⟨h1, h2, h3, h4, T, sv, rv, xs, h5, h6⟩ := h
  exact ⟨h1, h2, h3.trans (hb.mono h3.size), Nat.le_trans h4 hb.size, T, sv, rv, xs, h5.below hb, h6⟩
theorem JAwk.below {w0 w : World} {N j t : Nat} {J : Js} (h : JAwk w0 w N j t J) : Below w0.heap.size w0 w := h.2.2.1
/-- What lies from N on is as it was. -/
def Kept (w : World) (N : Nat) (w' : World) : Prop := ∀ k, N ≤ k → k < w.heap.size → w'.heap[k]? = w.heap[k]?
theorem ok2_awk {w0 w : World} {j t : Nat} {T : Tp} {rv : Value} {N : Nat} (h1 : Glob w0) (h2 : Mov w0) (h3 : Below w0.heap.size w0 w) (h6 : ∀ k, JB j t T rv k → w0.heap.size ≤ k ∧ k < N) : Ok2 w (JB j t T rv) :=
  ⟨h1.below h3, h2.below h3, fun hc => by have := (h6 _ hc).1; have := h1.lt; omega, fun hc => by have := (h6 _ hc).1; have := h2.lt; omega⟩
theorem JAwk.step {w0 w w' : World} {N j t : Nat} {T : Tp} {J' : Js} {rv : Value} (h1 : Glob w0) (h2 : Mov w0) (h3 : Below w0.heap.size w0 w) (h4 : N ≤ w.heap.size) (h6 : ∀ k, JB j t T rv k → w0.heap.size ≤ k ∧ k < N) (hd : JD w (JB j t T rv) j t J' w') : JAwk w0 w' w'.heap.size j t J' ∧ Kept w N w' := by
  obtain ⟨T', sv', rv', xs', k1, k2, k3⟩ := hd
  have hs := h3.size
  refine ⟨⟨h1, h2, h3.trans (k2.below (fun k hk => (h6 k hk).1) hs), Nat.le_refl _, T', sv', rv', xs', k1, fun k hk => ⟨(k3 k hk).elim (fun e => (h6 k e).1) (fun e => by omega), k1.lt k hk⟩⟩, fun k hk hk2 => k2.block k hk2 (fun hc => by have := (h6 k hc).2; omega)⟩
def AwkP (w0 w : World) (N j t : Nat) (r : Int × Js) (e : Ending) (w' : World) : Prop := e = .returned (.int .i64 r.1) ∧ JAwk w0 w' w'.heap.size j t r.2 ∧ Kept w N w'
theorem bis_keep' {w w' : World} {a : Addr} {n c : Nat} {l : List UInt8} (h : BIs w (.slice (some a) n c) l) (hs : w.heap.size ≤ w'.heap.size) (hk : w'.heap[a.block]? = w.heap[a.block]?) : BIs w' (.slice (some a) n c) l := by
  obtain ⟨A, cap, e, h1, h2, h3⟩ := h
  refine ⟨A, cap, e, h1, h2, fun i b hi => ?_⟩
  obtain ⟨a', q1, q2, q3⟩ := h3 i b hi
  injection e with e _ _
  rw [q1] at e
  injection e with e
  subst e
  exact ⟨a, q1, Nat.lt_of_lt_of_le q2 hs, (World.cell?_of_block (a := a.add i) (by rw [add_block]; exact hk)).trans q3⟩
section
variable {w0 w : World} {N j t : Nat} {J : Js}
theorem jaw_append (h : JAwk w0 w N j t J) {A : Option Addr} {c : Nat} {recs : List (List UInt8)} (hP : ∀ w', w.heap.size ≤ w'.heap.size → (∀ k, k < w.heap.size → (k < w0.heap.size ∨ N ≤ k) → w'.heap[k]? = w.heap[k]?) → PIs w' (.slice A recs.length c) recs) (hl : recs.length ≤ 1000) (hJl : J.rs.length ≤ 900000) :
    Calls Tryz.prog 31 #[.pointer (some ⟨j, 0, none⟩), .slice A recs.length c] w (AwkP w0 w N j t (addP J recs)) := by
  obtain ⟨h1, h2, h3, h4, T, sv, rv, xs, h5, h6⟩ := h
  refine (jappend h5 (ok2_awk h1 h2 h3 h6) (fun w' ht => hP w' ht.size fun k hk hor => ht.block k hk fun hc => by have := h6 k hc; omega) hl hJl).mono fun e w' ⟨e1, hd⟩ => ?_
  exact ⟨e1, JAwk.step h1 h2 h3 h4 h6 hd⟩
theorem jaw_write (h : JAwk w0 w N j t J) {A : Option Addr} {c : Nat} {recs : List (List UInt8)} (hP : ∀ w', w.heap.size ≤ w'.heap.size → (∀ k, k < w.heap.size → (k < w0.heap.size ∨ N ≤ k) → w'.heap[k]? = w.heap[k]?) → PIs w' (.slice A recs.length c) recs) (hl : recs.length ≤ 1000) (hJl : J.rs.length ≤ 900000) :
    Calls Tryz.prog 32 #[.pointer (some ⟨j, 0, none⟩), .slice A recs.length c] w (AwkP w0 w N j t (writeP J recs)) := by
  obtain ⟨h1, h2, h3, h4, T, sv, rv, xs, h5, h6⟩ := h
  refine (jwrite h5 (ok2_awk h1 h2 h3 h6) (fun w' ht => hP w' ht.size fun k hk hor => ht.block k hk fun hc => by have := h6 k hc; omega) hl hJl).mono fun e w' ⟨e1, hd⟩ => ?_
  exact ⟨e1, JAwk.step h1 h2 h3 h4 h6 hd⟩
theorem jaw_save (h : JAwk w0 w N j t J) {A : Option Addr} {c : Nat} {st : List UInt8} (hP : ∀ w', w.heap.size ≤ w'.heap.size → (∀ k, k < w.heap.size → (k < w0.heap.size ∨ N ≤ k) → w'.heap[k]? = w.heap[k]?) → BIs w' (.slice A st.length c) st) (hl : st.length ≤ 1000000) :
    Calls Tryz.prog 34 #[.pointer (some ⟨j, 0, none⟩), .slice A st.length c] w (AwkP w0 w N j t (saveP J st)) := by
  obtain ⟨h1, h2, h3, h4, T, sv, rv, xs, h5, h6⟩ := h
  refine (jsave h5 (ok2_awk h1 h2 h3 h6) (fun w' ht => hP w' ht.size fun k hk hor => ht.block k hk fun hc => by have := h6 k hc; omega) hl).mono fun e w' ⟨e1, hd⟩ => ?_
  exact ⟨e1, JAwk.step h1 h2 h3 h4 h6 hd⟩
theorem jaw_sync (h : JAwk w0 w N j t J) : Calls Tryz.prog 33 #[.pointer (some ⟨j, 0, none⟩)] w (AwkP w0 w N j t (syncP J)) := by
  obtain ⟨h1, h2, h3, h4, T, sv, rv, xs, h5, h6⟩ := h
  refine (jsync h5 (ok2_awk h1 h2 h3 h6)).mono fun e w' ⟨e1, hd⟩ => ?_
  exact ⟨e1, JAwk.step h1 h2 h3 h4 h6 hd⟩
theorem jaw_append_lit (h : JAwk w0 w N j t J) {l : List UInt8} {cs : Array Value} {fr : Nat × Nat} {n : Nat} (hcs : (bc l).toArray = cs) (hl : l.length = n) (hm : n ≤ 1000) (hJl : J.rs.length ≤ 900000) : Calls Tryz.prog 31 #[.pointer (some ⟨j, 0, none⟩), .slice (some ⟨w.heap.size + 1, 0, none⟩) 1 1] (litW w cs fr n) (AwkP w0 (litW w cs fr n) N j t (addP J [l])) := by
  have hA := h.keep (litW_below w cs fr n)
  have hs : (litW w cs fr n).heap.size = w.heap.size + 1 + 1 := by unfold litW; rw [asz, asz]
  have hN := h.2.2.2.1
  exact jaw_append hA (recs := [l]) (c := 1) (fun w' hsz hk => litW_pis (fr := fr) hcs hl hm (hk _ (by omega) (.inr hN)) (hk _ (by omega) (.inr (by omega)))) (by simp) hJl
theorem jaw_write_lit (h : JAwk w0 w N j t J) {l : List UInt8} {cs : Array Value} {fr : Nat × Nat} {n : Nat} (hcs : (bc l).toArray = cs) (hl : l.length = n) (hm : n ≤ 1000) (hJl : J.rs.length ≤ 900000) : Calls Tryz.prog 32 #[.pointer (some ⟨j, 0, none⟩), .slice (some ⟨w.heap.size + 1, 0, none⟩) 1 1] (litW w cs fr n) (AwkP w0 (litW w cs fr n) N j t (writeP J [l])) := by
  have hA := h.keep (litW_below w cs fr n)
  have hs : (litW w cs fr n).heap.size = w.heap.size + 1 + 1 := by unfold litW; rw [asz, asz]
  have hN := h.2.2.2.1
  exact jaw_write hA (recs := [l]) (c := 1) (fun w' hsz hk => litW_pis (fr := fr) hcs hl hm (hk _ (by omega) (.inr hN)) (hk _ (by omega) (.inr (by omega)))) (by simp) hJl
theorem jaw_save_lit (h : JAwk w0 w N j t J) {l : List UInt8} {cs : Array Value} {fr : Nat × Nat} (hcs : (bc l).toArray = cs) (hm : l.length ≤ 1000) : Calls Tryz.prog 34 #[.pointer (some ⟨j, 0, none⟩), .slice (some ⟨w.heap.size, 0, none⟩) l.length l.length] (w.alloc (.cells cs 5 fr)) (AwkP w0 (w.alloc (.cells cs 5 fr)) N j t (saveP J l)) := by
  have hA := h.keep (below_new (w := w) (.cells cs 5 fr))
  have hs : (w.alloc (.cells cs 5 fr)).heap.size = w.heap.size + 1 := asz _ _
  have hN := h.2.2.2.1
  have hL := new_lit w l cs fr hcs hm
  exact jaw_save hA (fun w' hsz hk => bis_keep' hL hsz (hk w.heap.size (by omega) (.inr hN))) (by omega)
end
end Go.Proofs.YtnegnokielmgkaaGreatDoor

namespace Go.Proofs.YtnegnokielmgkaaGreatDoor

def exT : Pl := ⟨1000, [], -1, false⟩
def exA : Js := (loadP exT 64).2
def exB : Js := (writeP exA [[97]]).2
def exC : Js := (addP exB [[98]]).2
def exD : Js := (loadP (crashP exC.p []) 64).2
def exE : Js := (saveP exC [115]).2
def exF : Js := (addP exE [[99]]).2
theorem ex_load : (loadP exT 64).1 = 0 := by decide +kernel
theorem ex_write : (writeP exA [[97]]).1 = 0 := by decide +kernel
theorem ex_add : (addP exB [[98]]).1 = 0 := by decide +kernel
theorem ex_open : (loadP (crashP exC.p []) 64).1 = 0 := by decide +kernel
theorem ex_openS : sizeS (crashP exC.p []).A = 9 := by decide +kernel
theorem ex_save : (saveP exC [115]).1 = 0 := by decide +kernel
theorem ex_addc : (addP exE [[99]]).1 = 0 := by decide +kernel
theorem exA_rs : exA.rs = [] := by decide +kernel
theorem exB_rs : exB.rs = [[97]] := by decide +kernel
theorem exC_rs : exC.rs = [[97], [98]] := by decide +kernel
theorem exD_rs : exD.rs = [[97]] := by decide +kernel
theorem exE_rs : exE.rs = [] := by decide +kernel
theorem exE_ns : numsOf exE.p.A = [1] := by decide +kernel
theorem exF_rs : exF.rs = [[99]] := by decide +kernel
theorem exF_st : exF.st = [115] := by decide +kernel
end Go.Proofs.YtnegnokielmgkaaGreatDoor

namespace Go.Proofs.YtnegnokielmgkaaGreatDoor
open Go.RowKit

theorem awk_open {w0 w w' : World} {t : Nat} {T : Tp} {r : Int × Js} {e : Ending} (hG : Glob w0) (hM : Mov w0) (hb : Below w0.heap.size w0 w) (hn : ∀ k ∈ T.blocks t, w0.heap.size ≤ k) (h : OpenP w t T r e w') (h0 : r.1 = 0) : ∃ j, e = .returned (.tuple #[.pointer (some ⟨j, 0, none⟩), .int .i64 0]) ∧ JAwk w0 w' w'.heap.size j t r.2 ∧ Touch (fun k => k ∈ T.blocks t) w w' := by
  rcases h with ⟨h1, _⟩ | ⟨_, j, T', sv, rv, xs, e1, k1, k2, k3⟩
  · exact absurd h0 h1
  · have hs := hb.size
    exact ⟨j, e1, ⟨hG, hM, hb.trans (k2.below hn hs), Nat.le_refl _, T', sv, rv, xs, k1, fun k hk => ⟨(k3 k hk).elim (hn k) (fun e => by omega), k1.lt k hk⟩⟩, k2⟩
theorem JAwk.ok2 {w0 w : World} {N j t : Nat} {J : Js} (h : JAwk w0 w N j t J) : Glob w ∧ Mov w := ⟨h.1.below h.2.2.1, h.2.1.below h.2.2.1⟩
set_option maxRecDepth 100000 in
set_option maxHeartbeats 4000000 in
theorem awake5 {w : World} (hG : Glob w) (hM : Mov w) : Calls Tryz.prog 26 #[] w fun e w' => e = .returned (.bool true) ∧ Below w.heap.size w w' := by
  have HN := Lib.hid (tp_new 1000 (by omega) w)
  have HG := Lib.hid hG
  have HM := Lib.hid hM
  clear hG hM
  go_enter Tryz.func26, Tryz.ntmps26
  go_wp2_with fail
  refine (HN.out).mono ?_
  rintro e w1 ⟨t, T0, rfl, htp, hnew, hb1⟩
  have hglob : 0 ∉ T0.blocks t := fun hc => by have := hnew _ hc; have := HG.out.lt; omega
  have hmov : 1 ∉ T0.blocks t := fun hc => by have := hnew _ hc; have := HM.out.lt; omega
  have HOP := Lib.hid (jopen (p := exT) (seg := 64) htp (HG.out.below hb1) (HM.out.below hb1) hglob hmov (by omega) (by omega) (by show sizeS [] ≤ _; simp [sizeS]))
  have HB1 := Lib.hid hb1
  have HNW := Lib.hid hnew
  clear htp hnew hb1 hglob hmov
  go_wp2_with fail
  refine (HOP.out).mono ?_
  intro e w2 hop
  obtain ⟨j, rfl, k2, _⟩ := awk_open HG.out HM.out HB1.out HNW.out hop ex_load
  replace k2 : JAwk w w2 w2.heap.size j t exA := k2
  have HW : Hid (Calls _ _ _ _ _) := Lib.hid (jaw_write_lit k2 (l := [97]) (cs := #[.int .u8 97]) (fr := (1, 2)) (n := 1) rfl rfl (by omega) (by rw [exA_rs]; simp))
  have hcv := Lib.run_convert_bytes_const (P := Tryz.prog) w2 32 5 #[.int .u8 97] 1 1 Tryz.underlying32 Tryz.underlying5
  clear hop k2
  go_wp2_with fail
  refine (HW.out).mono ?_
  rintro e w3 ⟨rfl, k3, _⟩
  rw [ex_write]
  replace k3 : JAwk w w3 w3.heap.size j t exB := k3
  clear hcv
  have hcv := Lib.run_convert_bytes_const (P := Tryz.prog) w3 32 5 #[.int .u8 98] 1 1 Tryz.underlying32 Tryz.underlying5
  have HA : Hid (Calls _ _ _ _ _) := Lib.hid (jaw_append_lit k3 (l := [98]) (cs := #[.int .u8 98]) (fr := (1, 2)) (n := 1) rfl rfl (by omega) (by rw [exB_rs]; simp))
  clear k3
  go_wp2_with fail
  refine (HA.out).mono ?_
  rintro e w4 ⟨rfl, k4, _⟩
  rw [ex_add]
  replace k4 : JAwk w w4 w4.heap.size j t exC := k4
  have K4 := Lib.hid k4
  clear hcv
  obtain ⟨_, _, _, _, T4, _, _, _, hj4, hb4⟩ := id k4
  have HCR : Hid (Calls _ _ _ _ _) := Lib.hid (tp_crash (ks := []) hj4.tp (kv := .slice none 0 0) ⟨none, 0, rfl, Nat.le_refl _, by unfold maxLen; omega, fun i x hi => by simp at hi⟩ (fun k hk => by cases hk))
  clear k4 hj4 hb4
  go_wp2_with fail
  refine (HCR.out).mono ?_
  rintro e w5 ⟨c, TC, rfl, htc, hnc, hb5⟩
  have K5 := Lib.hid (K4.out.keep hb5)
  have hglob : 0 ∉ TC.blocks c := fun hc => by have := hnc _ hc; have := HG.out.lt; have := K4.out.below.size; omega
  have hmov : 1 ∉ TC.blocks c := fun hc => by have := hnc _ hc; have := HM.out.lt; have := K4.out.below.size; omega
  have HOP2 := Lib.hid (jopen (p := crashP exC.p []) (seg := 64) htc K5.out.ok2.1 K5.out.ok2.2 hglob hmov (by omega) (by omega) (by rw [ex_openS]; omega))
  have HB5 := Lib.hid hb5
  have HNC := Lib.hid hnc
  clear htc hnc hb5 hglob hmov
  go_wp2_with fail
  refine (HOP2.out).mono ?_
  intro e w6 hop
  have hg0 : ∀ k ∈ TC.blocks c, w.heap.size ≤ k := fun k hk => Nat.le_trans K4.out.below.size (HNC.out k hk)
  obtain ⟨kj, rfl, k6, ht6⟩ := awk_open HG.out HM.out K5.out.below hg0 hop ex_open
  replace k6 : JAwk w w6 w6.heap.size kj c exD := k6
  have HB46 : Hid (Below w4.heap.size w4 w6) := Lib.hid (HB5.out.trans (ht6.below HNC.out HB5.out.size))
  have J6 := Lib.hid (K4.out.keep HB46.out)
  obtain ⟨_, _, _, _, T6, _, _, _, hj6, _⟩ := id k6
  have HR6 := Lib.hid (jrecs hj6 (by rw [exD_rs]; simp) (fun l hl => by rw [exD_rs] at hl; rw [List.mem_singleton.1 hl]; simp))
  rw [exD_rs] at HR6
  clear hop k6 hj6 ht6 hg0
  go_wp2_with fail
  refine (HR6.out).mono ?_
  rintro e w7 ⟨hb7, v7, xs7, rfl, ho7, hf7⟩
  have J7 := Lib.hid (J6.out.keep hb7)
  obtain ⟨A7, c7, rfl, _, _, _, _⟩ := ho7.vis
  rw [show xs7.length = 1 from hf7.1]
  obtain ⟨_, _, _, _, T7, _, _, _, hj7, _⟩ := id J7.out
  have HR7 := Lib.hid (jrecs hj7 (by rw [exC_rs]; simp) (fun l hl => by rw [exC_rs] at hl; simp at hl; rcases hl with rfl | rfl <;> simp))
  rw [exC_rs] at HR7
  clear hb7 ho7 hf7 hj7
  go_wp2_with fail
  refine (HR7.out).mono ?_
  rintro e w8 ⟨hb8, v8, xs8, rfl, ho8, hf8⟩
  have J8 := Lib.hid (J7.out.keep hb8)
  obtain ⟨A8, c8, rfl, _, _, _, _⟩ := ho8.vis
  rw [show xs8.length = 2 from hf8.1]
  clear hb8 ho8 hf8
  have hcv := Lib.run_convert_bytes_const (P := Tryz.prog) w8 32 5 #[.int .u8 115] 1 1 Tryz.underlying32 Tryz.underlying5
  have HSV : Hid (Calls _ _ _ _ _) := Lib.hid (jaw_save_lit J8.out (l := [115]) (cs := #[.int .u8 115]) (fr := (1, 2)) rfl (by simp))
  go_wp2_with fail
  refine (HSV.out).mono ?_
  rintro e w9 ⟨rfl, k9, _⟩
  rw [ex_save]
  replace k9 : JAwk w w9 w9.heap.size j t exE := k9
  have K9 := Lib.hid k9
  clear hcv
  obtain ⟨_, _, _, _, T9, _, _, _, hj9, _⟩ := id k9
  have HSG := Lib.hid (jsegs hj9)
  clear k9 hj9
  go_wp2_with fail
  refine (HSG.out).mono ?_
  rintro e w10 ⟨v10, rfl, hr10, ho10, hb10⟩
  rw [exE_ns] at hr10
  have K10 := Lib.hid (K9.out.keep hb10)
  obtain ⟨A10, c10, rfl, hl1, hl2, _, _, _⟩ := hr10.form
  obtain ⟨g10, u10, e10, hg10, _, hu10, hc10⟩ := row_at hr10 (i := 0) (by simp)
  subst e10
  obtain rfl : u10 = .int .i64 1 := by simpa using hu10.symm
  have hg9 : w9.heap.size ≤ g10 := ho10 g10 rfl
  have HC10 := Lib.hid hc10
  have HG10 := Lib.hid hg10
  have HG9 := Lib.hid hg9
  clear hr10 ho10 hb10 hu10 hc10 hg10 hg9
  have hcv := Lib.run_convert_bytes_const (P := Tryz.prog) w10 32 5 #[.int .u8 99] 1 1 Tryz.underlying32 Tryz.underlying5
  have HAC : Hid (Calls _ _ _ _ _) := Lib.hid (jaw_append_lit K10.out (l := [99]) (cs := #[.int .u8 99]) (fr := (1, 2)) (n := 1) rfl rfl (by omega) (by rw [exE_rs]; simp))
  go_wp2_with fail
  refine (HAC.out).mono ?_
  rintro e w11 ⟨rfl, k11, hkp⟩
  rw [ex_addc]
  replace k11 : JAwk w w11 w11.heap.size j t exF := k11
  have K11 := Lib.hid k11
  clear hcv
  have hlb := litW_below w10 #[.int .u8 99] (1, 2) 1
  have hc11 : w11.cell? ⟨g10, 0, none⟩ = some (.int .i64 1) := by
    have h1 := hlb.size
    rw [World.cell?_of_block (a := ⟨g10, 0, none⟩) (hkp g10 HG9.out (Nat.lt_of_lt_of_le HG10.out h1))]
    exact (hlb.cell (p := ⟨g10, 0, none⟩) HG10.out).trans HC10.out
  obtain ⟨_, _, _, _, T11, _, _, _, hj11, _⟩ := id k11
  have HST := Lib.hid (jstate hj11 (by rw [exF_st]; simp))
  rw [exF_st] at HST
  clear k11 hkp hlb hj11
  go_wp2_with fail
  refine (HST.out).mono ?_
  rintro e w12 ⟨v12, rfl, ho12, hb12⟩
  have K12 := Lib.hid (K11.out.keep hb12)
  have hcv := bis_string ho12.bis
  obtain ⟨A12, c12, rfl, _, _, _⟩ := ho12.bis
  replace hcv : (convert 32 9 (.slice A12 1 c12)).run Tryz.prog w12 = .ok (.string ⟨#[115]⟩) w12 := hcv
  obtain ⟨_, _, _, _, T12, _, _, _, hj12, _⟩ := id K12.out
  have HLN := Lib.hid (jlen hj12)
  have HRC := Lib.hid (jrecs hj12 (by rw [exF_rs]; simp) (fun l hl => by rw [exF_rs] at hl; rw [List.mem_singleton.1 hl]; simp))
  rw [exF_rs] at HLN HRC
  clear ho12 hb12 hj12
  go_wp2_with fail
  refine (HLN.out).mono ?_
  rintro e w12' ⟨rfl, rfl⟩
  clear hcv
  go_wp2_with fail
  refine (HRC.out).mono ?_
  rintro e w13 ⟨hb13, v13, xs13, rfl, ho13, hf13⟩
  have K13 := Lib.hid (K12.out.keep hb13)
  obtain ⟨A13, c13, rfl, hl13, hm13, hh13, hg13⟩ := ho13.vis
  have hx1 : xs13.length = 1 := hf13.1
  have hx0 : xs13[0]? = some (xs13[0]'(by omega)) := List.getElem?_eq_getElem _
  obtain ⟨a13, rfl, hc13⟩ := hg13 0 _ hx0
  have hbf := hf13.2 0 _ [99] hx0 rfl
  generalize xs13[0]'(by omega) = x13 at *
  have hcv := bis_string hbf.1
  obtain ⟨⟨A14, c14, rfl, _, _, _⟩, _⟩ := hbf
  replace hcv : (convert 32 9 (.slice A14 1 c14)).run Tryz.prog w13 = .ok (.string ⟨#[99]⟩) w13 := hcv
  replace hc13 : w13.cell? a13 = some (.slice A14 1 c14) := hc13
  rw [hx1] at hl13 ⊢
  clear hb13 ho13 hf13 hh13 hg13 hx0 hx1
  go_wp2_with fail
  go_ret
  exact ⟨rfl, K13.out.below⟩
end Go.Proofs.YtnegnokielmgkaaGreatDoor
