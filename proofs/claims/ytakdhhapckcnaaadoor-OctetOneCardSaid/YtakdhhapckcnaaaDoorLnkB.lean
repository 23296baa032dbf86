/- fault.At, fault.In, fault.Bound, and the functions wrapped and made of the law file, at every chain and links. -/
import Derived.Test.YtakdhhapckcnaaaDoorLnkA
set_option linter.unusedSimpArgs false
set_option linter.unusedVariables false
namespace Go.Proofs.YtakdhhapckcnaaaDoor
open Go.RowKit

def toLk (x : L6) : Lk := if x.kind = 0 then .num x.e else if x.kind = 1 then .plc x.place else if x.kind = 2 then .nam x.name else .bnd x.l x.g
def rchain : List L6 → List L6
  | [] => []
  | x :: r => if x.kind = 0 then (if x.e = 0 then [] else [x]) else match rchain r with
    | [] => []
    | y :: c => x :: y :: c
def chainOf (ls : List L6) : List Lk := (rchain ls).map toLk
def KindsOk (ls : List L6) : Prop := ∀ x ∈ ls, 0 ≤ x.kind ∧ x.kind ≤ 3
theorem kindsOk_cutL (ls : List L6) : KindsOk (cutL ls) := by
  intro x hx
  unfold cutL at hx
  obtain ⟨y, _, rfl⟩ := List.mem_map.1 hx
  have h1 := (tmod_bd y.kind).1
  have h2 := (tmod_bd y.kind).2
  show 0 ≤ (if y.kind.tmod 4 < 0 then -y.kind.tmod 4 else y.kind.tmod 4) ∧ (if y.kind.tmod 4 < 0 then -y.kind.tmod 4 else y.kind.tmod 4) ≤ 3
  split <;> omega
theorem cutL_le (ls : List L6) : (cutL ls).length ≤ 30 := by unfold cutL; simp; omega

def onto (k : Lk) : List Lk → List Lk
  | [] => []
  | k' :: r => k :: k' :: r
def newL (e : Int) : List Lk := if e = 0 then [] else [.num e]
/-- wrapped, of links and a chain -/
def wrapL (x : L6) (c : List Lk) : List Lk := if x.kind = 0 then newL x.e else onto (toLk x) c
theorem chainOf_cons (x : L6) (r : List L6) : chainOf (x :: r) = wrapL x (chainOf r) := by
  unfold chainOf wrapL newL
  rw [rchain]
  by_cases h0 : x.kind = 0
  · by_cases h1 : x.e = 0
    · simp [h0, h1]
    · simp [h0, h1, toLk]
  · cases hc : rchain r <;> simp [h0, onto]

/-! New, At, In, Bound -/
set_option maxHeartbeats 400000 in
theorem at_nil (p : Int) (w : World) : Calls Tryd.prog 64 #[.int .i64 p, .nilIface] w fun e w' => e = .returned .nilIface ∧ w = w' := by
  go_enter Tryd.func64, Tryd.ntmps64
  go_wp2
  go_ret
  exact ⟨rfl, rfl⟩
set_option maxHeartbeats 400000 in
theorem at_some (p : Int) (t : TypeId) (u : Value) (w : World) : Calls Tryd.prog 64 #[.int .i64 p, .iface t u] w fun e w' => e = .returned (.iface 87 (.pointer (some ⟨w.heap.size, 0, none⟩))) ∧ w.alloc (.cells #[.iface t u, .int .i64 p] 91) = w' := by
  go_enter Tryd.func64, Tryd.ntmps64
  go_wp2
  go_ret
  exact ⟨rfl, rfl⟩
set_option maxHeartbeats 400000 in
theorem in_nil (s : ByteArray) (w : World) : Calls Tryd.prog 65 #[.string s, .nilIface] w fun e w' => e = .returned .nilIface ∧ w = w' := by
  go_enter Tryd.func65, Tryd.ntmps65
  go_wp2
  go_ret
  exact ⟨rfl, rfl⟩
set_option maxHeartbeats 400000 in
theorem in_some (s : ByteArray) (t : TypeId) (u : Value) (w : World) : Calls Tryd.prog 65 #[.string s, .iface t u] w fun e w' => e = .returned (.iface 94 (.pointer (some ⟨w.heap.size, 0, none⟩))) ∧ w.alloc (.cells #[.iface t u, .string s] 98) = w' := by
  go_enter Tryd.func65, Tryd.ntmps65
  go_wp2
  go_ret
  exact ⟨rfl, rfl⟩
set_option maxHeartbeats 400000 in
theorem bound_nil (l g : Int) (w : World) : Calls Tryd.prog 66 #[.int .i64 l, .int .i64 g, .nilIface] w fun e w' => e = .returned .nilIface ∧ w = w' := by
  go_enter Tryd.func66, Tryd.ntmps66
  go_wp2
  go_ret
  exact ⟨rfl, rfl⟩
set_option maxHeartbeats 400000 in
theorem bound_some (l g : Int) (t : TypeId) (u : Value) (w : World) : Calls Tryd.prog 66 #[.int .i64 l, .int .i64 g, .iface t u] w fun e w' => e = .returned (.iface 76 (.pointer (some ⟨w.heap.size, 0, none⟩))) ∧ w.alloc (.cells #[.iface t u, .int .i64 l, .int .i64 g] 82) = w' := by
  go_enter Tryd.func66, Tryd.ntmps66
  go_wp2
  go_ret
  exact ⟨rfl, rfl⟩

def MadePost (c : List Lk) (w : World) (e : Ending) (w' : World) : Prop := ∃ v, e = .returned v ∧ ErrIs w' c v ∧ Below w.heap.size w w'
theorem at_any {w : World} (p : Int) {c : List Lk} {v : Value} (h : ErrIs w c v) : Calls Tryd.prog 64 #[.int .i64 p, v] w (MadePost (onto (.plc p) c) w) := by
  cases c with
  | nil =>
    obtain rfl : v = .nilIface := h
    exact (at_nil p w).mono fun e w' ⟨he, hw⟩ => ⟨_, he, rfl, hw ▸ Below.refl _ _⟩
  | cons k r =>
    obtain ⟨t, u, rfl⟩ := h.form1
    refine (at_some p t u w).mono fun e w' ⟨he, hw⟩ => ?_
    subst hw
    have hb : Below w.heap.size w (w.alloc (.cells #[.iface t u, .int .i64 p] 91)) := (Below.refl _ _).alloc (Nat.le_refl _) _
    exact ⟨_, he, ⟨by simp, _, _, rfl, heap_alloc_new w _, h.below hb⟩, hb⟩
theorem in_any {w : World} (p : ByteArray) {c : List Lk} {v : Value} (h : ErrIs w c v) : Calls Tryd.prog 65 #[.string p, v] w (MadePost (onto (.nam p) c) w) := by
  cases c with
  | nil =>
    obtain rfl : v = .nilIface := h
    exact (in_nil p w).mono fun e w' ⟨he, hw⟩ => ⟨_, he, rfl, hw ▸ Below.refl _ _⟩
  | cons k r =>
    obtain ⟨t, u, rfl⟩ := h.form1
    refine (in_some p t u w).mono fun e w' ⟨he, hw⟩ => ?_
    subst hw
    have hb : Below w.heap.size w (w.alloc (.cells #[.iface t u, .string p] 98)) := (Below.refl _ _).alloc (Nat.le_refl _) _
    exact ⟨_, he, ⟨by simp, _, _, rfl, heap_alloc_new w _, h.below hb⟩, hb⟩
theorem bound_any {w : World} (l g : Int) {c : List Lk} {v : Value} (h : ErrIs w c v) : Calls Tryd.prog 66 #[.int .i64 l, .int .i64 g, v] w (MadePost (onto (.bnd l g) c) w) := by
  cases c with
  | nil =>
    obtain rfl : v = .nilIface := h
    exact (bound_nil l g w).mono fun e w' ⟨he, hw⟩ => ⟨_, he, rfl, hw ▸ Below.refl _ _⟩
  | cons k r =>
    obtain ⟨t, u, rfl⟩ := h.form1
    refine (bound_some l g t u w).mono fun e w' ⟨he, hw⟩ => ?_
    subst hw
    have hb : Below w.heap.size w (w.alloc (.cells #[.iface t u, .int .i64 l, .int .i64 g] 82)) := (Below.refl _ _).alloc (Nat.le_refl _) _
    exact ⟨_, he, ⟨by simp, _, _, rfl, heap_alloc_new w _, h.below hb⟩, hb⟩
theorem new_any (n : Int) (w : World) : Calls Tryd.prog 30 #[.int .i64 n] w (MadePost (newL n) w) := by
  by_cases h : n = 0
  · subst h
    exact (new_zero w).mono fun e w' ⟨he, hw⟩ => ⟨_, he, rfl, hw ▸ Below.refl _ _⟩
  · unfold newL
    rw [if_neg h]
    exact (new_num n h w).mono fun e w' ⟨he, hw⟩ => ⟨_, he, ⟨rfl, rfl⟩, hw ▸ Below.refl _ _⟩

set_option maxRecDepth 100000 in
set_option maxHeartbeats 1000000 in
theorem wrapped_any {w : World} (x : L6) {c : List Lk} {v : Value} (h : ErrIs w c v) : Calls Tryd.prog 27 #[.agg #[.int .i64 x.kind, .int .i64 x.e, .int .i64 x.place, .string x.name, .int .i64 x.l, .int .i64 x.g], v] w (MadePost (wrapL x c) w) := by
  have hb : Below w.heap.size w (w.alloc (.cells #[.int .i64 x.kind, .int .i64 x.e, .int .i64 x.place, .string x.name, .int .i64 x.l, .int .i64 x.g] 42)) := (Below.refl _ _).alloc (Nat.le_refl _) _
  have h' := h.below hb
  by_cases h0 : x.kind = 0
  · have hw : wrapL x c = newL x.e := by unfold wrapL; rw [if_pos h0]
    rw [hw]
    have H := Lib.hid (new_any x.e (w.alloc (.cells #[.int .i64 x.kind, .int .i64 x.e, .int .i64 x.place, .string x.name, .int .i64 x.l, .int .i64 x.g] 42)))
    have HB := Lib.hid hb
    have hk : (x.kind == 0) = true := beq_iff_eq.2 h0
    clear h h' hb hw h0
    go_enter Tryd.func27, Tryd.ntmps27
    go_wp2_with fail
    refine (H.out).mono ?_
    rintro e w1 ⟨v1, rfl, hv1, hb1⟩
    have HV := Lib.hid hv1
    have HB1 := Lib.hid hb1
    clear hv1 hb1
    go_wp2
    go_ret
    exact ⟨_, rfl, HV.out, HB.out.trans (HB1.out.mono HB.out.size)⟩
  · have hk0 : (x.kind == 0) = false := beq_eq_false_iff_ne.2 h0
    by_cases h1 : x.kind = 1
    · have hw : wrapL x c = onto (.plc x.place) c := by unfold wrapL; rw [if_neg h0]; simp [toLk, h0, h1]
      rw [hw]
      have H := Lib.hid (at_any x.place h')
      have HB := Lib.hid hb
      have hk1 : (x.kind == 1) = true := beq_iff_eq.2 h1
      clear h h' hb hw h0 h1
      go_enter Tryd.func27, Tryd.ntmps27
      go_wp2_with fail
      refine (H.out).mono ?_
      rintro e w1 ⟨v1, rfl, hv1, hb1⟩
      have HV := Lib.hid hv1
      have HB1 := Lib.hid hb1
      clear hv1 hb1
      go_wp2
      go_ret
      exact ⟨_, rfl, HV.out, HB.out.trans (HB1.out.mono HB.out.size)⟩
    · have hk1 : (x.kind == 1) = false := beq_eq_false_iff_ne.2 h1
      by_cases h2 : x.kind = 2
      · have hw : wrapL x c = onto (.nam x.name) c := by unfold wrapL; rw [if_neg h0]; simp [toLk, h2]
        rw [hw]
        have H := Lib.hid (in_any x.name h')
        have HB := Lib.hid hb
        have hk2 : (x.kind == 2) = true := beq_iff_eq.2 h2
        clear h h' hb hw h0 h1 h2
        go_enter Tryd.func27, Tryd.ntmps27
        go_wp2_with fail
        refine (H.out).mono ?_
        rintro e w1 ⟨v1, rfl, hv1, hb1⟩
        have HV := Lib.hid hv1
        have HB1 := Lib.hid hb1
        clear hv1 hb1
        go_wp2
        go_ret
        exact ⟨_, rfl, HV.out, HB.out.trans (HB1.out.mono HB.out.size)⟩
      · have hw : wrapL x c = onto (.bnd x.l x.g) c := by unfold wrapL; rw [if_neg h0]; simp [toLk, h0, h1, h2]
        rw [hw]
        have H := Lib.hid (bound_any x.l x.g h')
        have HB := Lib.hid hb
        have hk2 : (x.kind == 2) = false := beq_eq_false_iff_ne.2 h2
        clear h h' hb hw h0 h1 h2
        go_enter Tryd.func27, Tryd.ntmps27
        go_wp2_with fail
        refine (H.out).mono ?_
        rintro e w1 ⟨v1, rfl, hv1, hb1⟩
        have HV := Lib.hid hv1
        have HB1 := Lib.hid hb1
        clear hv1 hb1
        go_wp2
        go_ret
        exact ⟨_, rfl, HV.out, HB.out.trans (HB1.out.mono HB.out.size)⟩

theorem drop_at {ls : List L6} {k : Nat} {x : L6} (hx : ls[k]? = some x) : ls.drop k = x :: ls.drop (k + 1) := by
  have hlt : k < ls.length := (List.getElem?_eq_some_iff.1 hx).1
  rw [List.drop_eq_getElem_cons hlt]
  rw [(List.getElem?_eq_some_iff.1 hx).2]
set_option maxRecDepth 100000 in
set_option maxHeartbeats 1000000 in
theorem made_some {w : World} {a : Addr} {cap : Nat} {ls : List L6} (hlc : ls.length ≤ cap) (hcm : cap ≤ maxLen) (hal : a.block < w.heap.size) (h6 : ∀ i x, ls[i]? = some x → At6 w (a.add (i * 6)) x) :
    Calls Tryd.prog 14 #[.slice (some a) ls.length cap] w (MadePost (chainOf ls) w) := by
  unfold maxLen at hcm
  have hlm : ls.length ≤ 9223372036854775807 := by omega
  go_enter Tryd.func14, Tryd.ntmps14
  go_wp2_with fail
  go_loopw [3, 4] (fun v i wr => ∃ k : Nat, k ≤ ls.length ∧ i = .int .i64 ((k : Int) - 1) ∧ ErrIs wr (chainOf (ls.drop k)) v ∧ Below w.heap.size w wr) (fun _ i _ => (intOf i + 1).toNat)
  case atStart => exact ⟨ls.length, Nat.le_refl _, rfl, by rw [List.drop_length]; exact rfl, Below.refl _ _⟩
  case round =>
    obtain ⟨k, hk, rfl, hE, hb⟩ := hrel
    cases k with
    | zero =>
      have HB := Lib.hid hb
      have HE := Lib.hid hE
      clear hb hE h6
      go_wp2
      go_ret
      exact ⟨_, rfl, HE.out, HB.out⟩
    | succ k =>
      have hlt : k < ls.length := by omega
      have hx : ls[k]? = some ls[k] := List.getElem?_eq_getElem hlt
      generalize ls[k] = x at hx
      have hpb : (a.add (k * 6)).block < w.heap.size := by rw [add_block]; exact hal
      obtain ⟨c0, c1, c2, c3, c4, c5⟩ := (h6 k x hx).below hb hpb
      have HX := Lib.hid hx
      have HB := Lib.hid hb
      have H := Lib.hid (wrapped_any x hE)
      rw [show (((k + 1 : Nat) : Int) - 1) = (k : Int) from by omega]
      clear hx hb h6 hpb hE
      go_wp2_with fail
      refine (H.out).mono ?_
      rintro e w1 ⟨v1, rfl, hv1, hb1⟩
      have HV := Lib.hid hv1
      have HB1 := Lib.hid hb1
      clear hv1 hb1
      go_wp2
      go_roundw
      case rel => exact ⟨k, by omega, rfl, by rw [drop_at HX.out, chainOf_cons]; exact HV.out, HB.out.trans (HB1.out.mono HB.out.size)⟩
      case measure => simp [intOf] <;> omega
theorem made_any {w : World} {v : Value} {ls : List L6} (h : SlIs w v ls) : Calls Tryd.prog 14 #[v] w (MadePost (chainOf ls) w) := by
  rcases h with ⟨rfl, rfl⟩ | ⟨a, cap, rfl, h1, h2, h3, h4⟩
  · go_enter Tryd.func14, Tryd.ntmps14
    go_wp2
    refine wp_loop_rounds 1 ?_
    rw [rounds_succ]
    go_wp2
    go_ret
    exact ⟨_, rfl, rfl, Below.refl _ _⟩
  · exact made_some h1 h2 h3 h4
end Go.Proofs.YtakdhhapckcnaaaDoor
