/- errors.as at every chain, for a target of each of the four kinds: the first link of that kind is found and set, or none. errors.As at every chain, for a target of each of the four kinds. fault.ask at every chain, for each of the four kinds. fault.find, fault.Code, fault.Place and fault.Limit at every chain. fault.At, fault.In, fault.Bound, and the functions wrapped and made of the law file, at every chain and links. The numbers of math/bits.Len64 at this seat. Rows of bytes of the call's own; octet.Nat. (The first half is CrcD's, the second stage 1's OctB.) -/
import Derived.Test.YtmbonngjkgcijaaGreatDoorZCrcE
import Derived.Deep.LoopGhost
import Derived.Deep.QuietTactic
import Derived.BigQuiet
import Derived.Shelf.Strconv.Itoa0
import Derived.Ground.NamesProg
import Derived.Test.YtmbonngjkgcijaaGreatDoorProg
import Derived.Test.YtmbonngjkgcijaaGreatDoorZBasA
import Derived.Deep.AppendSrc
import Derived.Room.Entries
import Derived.Deep.Upon
set_option linter.unusedSimpArgs false
set_option linter.unusedVariables false
set_option linter.unnecessarySimpa false
namespace Go.Proofs.YtmbonngjkgcijaaGreatDoor
open Go.RowKit Go.Extern.Stop Go.Stop Go.Extern

def Lk.isNum : Lk → Bool | .num _ => true | _ => false
/-- The chain from its first link of a kind on. -/
def hit (q : Lk → Bool) : List Lk → List Lk
  | [] => []
  | k :: r => match q k with | true => k :: r | false => hit q r

/-- Of what was there only the block bt may have turned. -/
structure Only (bt : Nat) (W w' : World) : Prop where
  os : w'.os = W.os
  tape : w'.tape = W.tape
  output : w'.output = W.output
  size : W.heap.size ≤ w'.heap.size
  block : ∀ k, k < W.heap.size → k ≠ bt → w'.heap[k]? = W.heap[k]?

theorem Only.of_below {bt : Nat} {W w' : World} (h : Below W.heap.size W w') : Only bt W w' := ⟨h.os, h.tape, h.output, h.size, fun k hk _ => h.block k hk⟩
theorem Only.setCell {bt : Nat} {W w1 : World} (h : Only bt W w1) (i : Nat) (u : Value) : Only bt W (w1.setCell ⟨bt, i, none⟩ u) :=
  ⟨h.os, h.tape, h.output, by simpa [World.setCell] using h.size, fun k hk hne => (Below.heap_setCell w1 _ u k hne).trans (h.block k hk hne)⟩

theorem Only.trans_alloc {bt : Nat} {W w1 : World} (h : Only bt W w1) (o : Obj) : Only bt W (w1.alloc o) :=
  ⟨h.os, h.tape, h.output, Nat.le_trans h.size (by simp), fun k hk hne => (Below.heap_alloc w1 o k (Nat.lt_of_lt_of_le hk h.size)).trans (h.block k hk hne)⟩
/-- What errors.As leaves: whether a link of the kind was found; and in the target's one cell that link's value, or what was there. -/
def AsPost (q : Lk → Bool) (c : List Lk) (w W : World) (bt : Nat) (ET : TypeId) (old : Value) (e : Ending) (w' : World) : Prop :=
  Only bt W w' ∧
  match hit q c with
  | [] => e = .returned (.bool false) ∧ w'.heap[bt]? = some (.cells #[old] ET (0, 0))
  | k :: r => e = .returned (.bool true) ∧ ∃ u y, ErrIs w (k :: r) (.iface ET u) ∧ u.cells = #[y] ∧ w'.heap[bt]? = some (.cells #[y] ET (0, 0))

theorem set0 {W : World} {b : Nat} {x y : Value} {t : TypeId} (h : W.heap[b]? = some (.cells #[x] t (0, 0))) : (W.setCell ⟨b, 0, none⟩ y).heap[b]? = some (.cells #[y] t (0, 0)) := by
  simp [World.setCell, Array.getElem?_modify, h]
theorem block_alloc {w : World} {b : Nat} {o p : Obj} (h : w.heap[b]? = some o) : (w.alloc p).heap[b]? = some o := (Below.heap_alloc w p b (ErrIs.lt h)).trans h


set_option maxRecDepth 100000 in
set_option maxHeartbeats 1000000 in
theorem as_num {w W : World} {c : List Lk} {v old : Value} {bt ba : Nat} (h : ErrIs w c v) (hc : c ≠ []) (hW : Below w.heap.size w W) (hba : W.heap[ba]? = some (.cells #[.pointer (some ⟨bt, 0, none⟩)] 234 (0, 0))) (hbt : W.heap[bt]? = some (.cells #[old] 159 (0, 0))) :
    Calls Tryz.prog 186 #[v, .iface 234 (.pointer (some ⟨bt, 0, none⟩)), .agg #[.pointer (some ⟨2, 234, none⟩), .pointer (some ⟨ba, 0, none⟩), .int .u64 150], .iface 271 (.agg #[.pointer (some ⟨2, 159, none⟩)])] W (AsPost Lk.isNum c w W bt 159 old) := by
  have hwW : w.heap.size ≤ W.heap.size := hW.size
  have h67 := @run_callFunc_extern Tryz.prog 195 _ ReflectliteType.typeOf Tryz.func195 (by kernel_rfl) (by kernel_rfl) (by kernel_rfl) (by kernel_rfl)
  have h114 := @run_callFunc_extern Tryz.prog 225 _ (ReflectliteType.relation "AssignableTo" ReflectliteType.assignableTo) Tryz.func225 (by kernel_rfl) (by kernel_rfl) (by kernel_rfl) (by kernel_rfl)
  have h89 := @run_callFunc_extern Tryz.prog 196 _ (ReflectliteValue.method (ReflectliteValue.valueError "reflectlite.Value.Elem" 0) ReflectliteValue.elem) Tryz.func196 (by kernel_rfl) (by kernel_rfl) (by kernel_rfl) (by kernel_rfl)
  have h85 := @run_callFunc_extern Tryz.prog 183 _ (fun args => ReflectliteValue.unpack (args.getD 0 (.tuple #[]))) Tryz.func183 (by kernel_rfl) (by kernel_rfl) (by kernel_rfl) (by kernel_rfl)
  have h90 := @run_callFunc_extern Tryz.prog 197 _ ReflectliteValue.set Tryz.func197 (by kernel_rfl) (by kernel_rfl) (by kernel_rfl) (by kernel_rfl)
  have mA := methodAssignableTo
  have HW := Lib.hid hW
  have HBA := Lib.hid hba
  have HBT := Lib.hid hbt
  clear hba hbt hW
  go_enter Tryz.func186, Tryz.ntmps186
  go_wp2_with fail
  go_loopg [0] c.length (fun g v0 wr => ∃ r : List Lk, r.length = g ∧ r ≠ [] ∧ ErrIs w r v0 ∧ hit Lk.isNum r = hit Lk.isNum c ∧ Below (W.heap.size + 1) (W.alloc (.cells #[.pointer (some ⟨2, 234, none⟩), .pointer (some ⟨ba, 0, none⟩), .int .u64 150] 256)) wr)
  case atStart => exact ⟨c, rfl, hc, h, rfl, Below.refl _ _⟩
  case round =>
    clear h
    obtain ⟨r, hg, hne, hr, hh, hb⟩ := hrel
    have HH := Lib.hid hh
    have HG := Lib.hid hg
    clear hh hg
    have hbox : wr.heap[W.heap.size]? = some (.cells #[.pointer (some ⟨2, 234, none⟩), .pointer (some ⟨ba, 0, none⟩), .int .u64 150] 256 (0, 0)) := new_of_below hb
    have hc0 := cell_of_row wr W.heap.size 0 _ _ _ hbox
    have hc1 := cell_of_row wr W.heap.size 1 _ _ _ hbox
    have hc2 := cell_of_row wr W.heap.size 2 _ _ _ hbox
    have hbW : Below W.heap.size W wr := ((Below.refl _ _).alloc (Nat.le_refl _) _).trans (hb.mono (Nat.le_succ _))
    have hbat : wr.heap[ba]? = _ := (hbW.block ba (ErrIs.lt HBA.out)).trans HBA.out
    have hbtt : wr.heap[bt]? = _ := (hbW.block bt (ErrIs.lt HBT.out)).trans HBT.out
    have cba := cell_of_row wr ba 0 _ _ _ hbat
    have HBAT := Lib.hid hbat
    have HBTT := Lib.hid hbtt
    clear hbox hbat hbtt
    simp at hc0 hc1 hc2 cba
    cases r with
    | nil => exact absurd rfl hne
    | cons k0 r =>
      cases k0 with

      | num e =>
        obtain ⟨rfl, rfl⟩ := hr
        have e1 := typeOf84
        have e2 := assign84to84
        have e3 := elemV129 ⟨ba, 0, none⟩ ⟨bt, 0, none⟩ wr cba
        have e4 := valueOf84 e wr
        have e5 := set84 bt wr.heap.size e old (wr.alloc (.cells #[.int .i64 e] 159)) (by simp) (by rw [cell_of_row _ bt 0 _ _ _ (block_alloc HBTT.out)]; rfl) (free0 (block_alloc HBTT.out) 0)
        clear hc hne hb
        go_wp2
        go_ret
        exact ⟨((Only.of_below hbW).trans_alloc _).setCell 0 _, by rw [← HH.out]; exact ⟨rfl, _, _, ⟨rfl, rfl⟩, rfl, set0 (block_alloc HBTT.out)⟩⟩
      | plc p =>
        obtain ⟨hr1, b, x, rfl, hb1, hx⟩ := hr
        have hb2 := cell0 (HW.out.trans (hbW.mono hwW)) hb1
        have e1 := typeOf87
        have e2 := assign87to84
        have e3 := noAs87
        have e4 := hasU87
        have e5 := m87u b x wr hb2
        obtain ⟨k1, r1, rfl⟩ : ∃ k1 r1, r = k1 :: r1 := by
          cases r with
          | nil => exact absurd rfl hr1
          | cons k1 r1 => exact ⟨k1, r1, rfl⟩
        obtain ⟨xt, xu, rfl⟩ := hx.form1
        clear hc hne hb1 hb2 hr1
        have HB := Lib.hid hb
        clear hb
        go_wp2_with (go_at_call 218; refine (link_unwrap _ _).mono ?_; rintro e w1 ⟨rfl, rfl⟩)
        go_roundg (r1.length + 1)
        case measure => rw [← HG.out]; simp
        case rel => exact ⟨k1 :: r1, rfl, by simp, hx, HH.out, HB.out.alloc (by have := HB.out.size; simpa using this) _⟩
      | nam s =>
        obtain ⟨hr1, b, x, rfl, hb1, hx⟩ := hr
        have hb2 := cell0 (HW.out.trans (hbW.mono hwW)) hb1
        have e1 := typeOf94
        have e2 := assign94to84
        have e3 := noAs94
        have e4 := hasU94
        have e5 := m94u b x wr hb2
        obtain ⟨k1, r1, rfl⟩ : ∃ k1 r1, r = k1 :: r1 := by
          cases r with
          | nil => exact absurd rfl hr1
          | cons k1 r1 => exact ⟨k1, r1, rfl⟩
        obtain ⟨xt, xu, rfl⟩ := hx.form1
        clear hc hne hb1 hb2 hr1
        have HB := Lib.hid hb
        clear hb
        go_wp2_with (go_at_call 218; refine (link_unwrap _ _).mono ?_; rintro e w1 ⟨rfl, rfl⟩)
        go_roundg (r1.length + 1)
        case measure => rw [← HG.out]; simp
        case rel => exact ⟨k1 :: r1, rfl, by simp, hx, HH.out, HB.out.alloc (by have := HB.out.size; simpa using this) _⟩
      | bnd l g =>
        obtain ⟨hr1, b, x, rfl, hb1, hx⟩ := hr
        have hb2 := cell0 (HW.out.trans (hbW.mono hwW)) hb1
        have e1 := typeOf76
        have e2 := assign76to84
        have e3 := noAs76
        have e4 := hasU76
        have e5 := m76u b x wr hb2
        obtain ⟨k1, r1, rfl⟩ : ∃ k1 r1, r = k1 :: r1 := by
          cases r with
          | nil => exact absurd rfl hr1
          | cons k1 r1 => exact ⟨k1, r1, rfl⟩
        obtain ⟨xt, xu, rfl⟩ := hx.form1
        clear hc hne hb1 hb2 hr1
        have HB := Lib.hid hb
        clear hb
        go_wp2_with (go_at_call 218; refine (link_unwrap _ _).mono ?_; rintro e w1 ⟨rfl, rfl⟩)
        go_roundg (r1.length + 1)
        case measure => rw [← HG.out]; simp
        case rel => exact ⟨k1 :: r1, rfl, by simp, hx, HH.out, HB.out.alloc (by have := HB.out.size; simpa using this) _⟩

end Go.Proofs.YtmbonngjkgcijaaGreatDoor

namespace Go.Proofs.YtmbonngjkgcijaaGreatDoor
open Go.RowKit Go.Extern.Stop Go.Stop Go.Extern

/-- What package errors' variable holds. -/
def Glob (w : World) : Prop := w.cell? ⟨1, 0, none⟩ = some (.iface 271 (.agg #[.pointer (some ⟨2, 94, none⟩)]))
theorem Glob.lt {w : World} (h : Glob w) : 1 < w.heap.size := by
  refine Classical.byContradiction fun h0 => ?_
  unfold Glob at h
  simp [World.cell?, Array.getElem?_eq_none (Nat.le_of_not_lt h0)] at h
theorem Glob.below {w W : World} (h : Glob w) (hW : Below w.heap.size w W) : Glob W := (hW.cell (p := ⟨1, 0, none⟩) h.lt).trans h
theorem Only.after {bt : Nat} {W W2 w' : World} (hb : Below W.heap.size W W2) (h : Only bt W2 w') : Only bt W w' :=
  ⟨h.os.trans hb.os, h.tape.trans hb.tape, h.output.trans hb.output, Nat.le_trans hb.size h.size, fun k hk hne => (h.block k (Nat.lt_of_lt_of_le hk hb.size) hne).trans (hb.block k hk)⟩
theorem AsPost.after {q : Lk → Bool} {c : List Lk} {w W W2 : World} {bt : Nat} {ET : TypeId} {old : Value} {e : Ending} {w' : World} (hb : Below W.heap.size W W2) (h : AsPost q c w W2 bt ET old e w') : AsPost q c w W bt ET old e w' :=
  ⟨Only.after hb h.1, h.2⟩
theorem AsPost.ends {q : Lk → Bool} {c : List Lk} {w W : World} {bt : Nat} {ET : TypeId} {old : Value} {e : Ending} {w' : World} (h : AsPost q c w W bt ET old e w') : ∃ b : Bool, e = .returned (.bool b) := by
  obtain ⟨_, h⟩ := h
  cases hh : hit q c with
  | nil => rw [hh] at h; exact ⟨_, h.1⟩
  | cons k r => rw [hh] at h; exact ⟨_, h.1⟩


set_option maxRecDepth 100000 in
set_option maxHeartbeats 1000000 in
theorem errAs_num {w W : World} {c : List Lk} {v old : Value} {bt : Nat} (hG : Glob w) (h : ErrIs w c v) (hW : Below w.heap.size w W) (hbt : W.heap[bt]? = some (.cells #[old] 159 (0, 0))) :
    Calls Tryz.prog 162 #[v, .iface 234 (.pointer (some ⟨bt, 0, none⟩))] W (AsPost Lk.isNum c w W bt 159 old) := by
  by_cases hc : c = []
  · subst hc
    obtain rfl : v = .nilIface := h
    have HBT := Lib.hid hbt
    clear hbt
    go_enter Tryz.func162, Tryz.ntmps162
    go_wp2
    go_ret
    exact ⟨Only.of_below (Below.refl _ _), rfl, HBT.out⟩
  · obtain ⟨vt, vu, rfl⟩ : ∃ t u, v = .iface t u := by
      cases c with
      | nil => exact absurd rfl hc
      | cons k r => exact h.form1
    have h85 := @run_callFunc_extern Tryz.prog 183 _ (fun args => ReflectliteValue.unpack (args.getD 0 (.tuple #[]))) Tryz.func183 (by kernel_rfl) (by kernel_rfl) (by kernel_rfl) (by kernel_rfl)
    have h86 := @run_callFunc_extern Tryz.prog 184 _ (ReflectliteValue.methodAny (ReflectliteValue.valueError "reflectlite.Value.Type" 0) (fun t _ _ _ => ReflectliteType.toType t)) Tryz.func184 (by kernel_rfl) (by kernel_rfl) (by kernel_rfl) (by kernel_rfl)
    have h87 := @run_callFunc_extern Tryz.prog 185 _ (ReflectliteValue.method (ReflectliteValue.valueError "reflectlite.Value.IsNil" 0) ReflectliteValue.isNil) Tryz.func185 (by kernel_rfl) (by kernel_rfl) (by kernel_rfl) (by kernel_rfl)
    have h105 := @run_callFunc_extern Tryz.prog 213 _ (ReflectliteType.abiMethod fun t => do pure (.int .u8 (← Rtype.kind t))) Tryz.func213 (by kernel_rfl) (by kernel_rfl) (by kernel_rfl) (by kernel_rfl)
    have h116 := @run_callFunc_extern Tryz.prog 227 _ (ReflectliteType.method ReflectliteType.elem) Tryz.func227 (by kernel_rfl) (by kernel_rfl) (by kernel_rfl) (by kernel_rfl)
    have h117 := @run_callFunc_extern Tryz.prog 228 _ (ReflectliteType.relation "Implements" ReflectliteType.implements_) Tryz.func228 (by kernel_rfl) (by kernel_rfl) (by kernel_rfl) (by kernel_rfl)
    have f1 := valueOf129 ⟨bt, 0, none⟩ W
    have f2 := type129
    have mK := methodKind
    have mE := methodElem
    have mI := methodImplements
    have k1 := kind129
    have k2 := kind84
    have e1 := elem129
    have i1 := implements84
    have hb1 : Below W.heap.size W ((W.alloc (.cells #[.pointer (some ⟨bt, 0, none⟩)] 234)).alloc (.cells #[.pointer (some ⟨2, 234, none⟩), .pointer (some ⟨W.heap.size, 0, none⟩), .int .u64 150] 256)) :=
      ((Below.refl _ _).alloc (Nat.le_refl _) _).alloc (by simp) _
    have n1 := isNil129 ⟨W.heap.size, 0, none⟩ ⟨bt, 0, none⟩ ((W.alloc (.cells #[.pointer (some ⟨bt, 0, none⟩)] 234)).alloc (.cells #[.pointer (some ⟨2, 234, none⟩), .pointer (some ⟨W.heap.size, 0, none⟩), .int .u64 150] 256)) (by simp)
    have g1 : ((W.alloc (.cells #[.pointer (some ⟨bt, 0, none⟩)] 234)).alloc (.cells #[.pointer (some ⟨2, 234, none⟩), .pointer (some ⟨W.heap.size, 0, none⟩), .int .u64 150] 256)).cell? ⟨1, 0, none⟩ = some (.iface 271 (.agg #[.pointer (some ⟨2, 94, none⟩)])) :=
      hG.below (hW.trans (hb1.mono hW.size))
    have HA := Lib.hid (as_num (ba := W.heap.size) h hc (hW.trans (hb1.mono hW.size)) (block_alloc (heap_alloc_new W _)) (block_alloc (block_alloc hbt)))
    have HB1 := Lib.hid hb1
    clear hb1 h hW hbt hG hc
    go_enter Tryz.func162, Tryz.ntmps162
    go_wp2_with (go_at_call 186; refine (HA.out).mono ?_; rintro e w1 hp; have HP := Lib.hid hp; obtain ⟨b, rfl⟩ := hp.ends; clear hp)
    go_ret
    exact AsPost.after HB1.out HP.out

end Go.Proofs.YtmbonngjkgcijaaGreatDoor

namespace Go.Proofs.YtmbonngjkgcijaaGreatDoor
open Go.RowKit

theorem Only.below_new {bt : Nat} {W W2 w1 : World} (hb : Below W.heap.size W W2) (hbt : W.heap.size ≤ bt) (h : Only bt W2 w1) : Below W.heap.size W w1 :=
  ⟨h.os.trans hb.os, h.tape.trans hb.tape, h.output.trans hb.output, Nat.le_trans hb.size h.size, fun k hk => (h.block k (Nat.lt_of_lt_of_le hk hb.size) (by omega)).trans (hb.block k hk)⟩
theorem two_cells {w1 : World} {a b : Nat} (hab : a ≠ b) {x y : Value} (x' y' : Value) (ha : w1.cell? ⟨a, 0, none⟩ = some x) (hb : w1.cell? ⟨b, 0, none⟩ = some y) :
    ((w1.setCell ⟨a, 0, none⟩ x').setCell ⟨b, 0, none⟩ y').cell? ⟨a, 0, none⟩ = some x' ∧ ((w1.setCell ⟨a, 0, none⟩ x').setCell ⟨b, 0, none⟩ y').cell? ⟨b, 0, none⟩ = some y' := by
  have hne : (⟨a, 0, none⟩ : Addr) ≠ ⟨b, 0, none⟩ := fun h => by injection h; exact hab ‹_›
  exact ⟨(World.cell?_setCell_other _ _ _ _ (Ne.symm hne)).trans (World.cell?_setCell_same _ _ _ ha), World.cell?_setCell_same _ _ _ ((World.cell?_setCell_other _ _ _ _ hne).trans hb)⟩
/-- What ask and find answer. -/
def AskPost (q : Lk → Bool) (c : List Lk) (w W : World) (ET : TypeId) (zero : Value) (e : Ending) (w' : World) : Prop :=
  Below W.heap.size W w' ∧
  match hit q c with
  | [] => e = .returned (.tuple #[zero, .bool false])
  | k :: r => ∃ u, ErrIs w (k :: r) (.iface ET u) ∧ e = .returned (.tuple #[u, .bool true])

theorem inv84 {w : World} {k : Lk} {r : List Lk} {u : Value} (h : ErrIs w (k :: r) (.iface 159 u)) : ∃ e, k = .num e ∧ r = [] ∧ u = .agg #[.int .i64 e] := by
  cases k with
  | num e => obtain ⟨rfl, h⟩ := h; injection h with _ h; exact ⟨e, rfl, rfl, h⟩
  | plc p => obtain ⟨_, b, x, h, _⟩ := h; injection h with h _; exact absurd h (by decide)
  | nam p => obtain ⟨_, b, x, h, _⟩ := h; injection h with h _; exact absurd h (by decide)
  | bnd l g => obtain ⟨_, b, x, h, _⟩ := h; injection h with h _; exact absurd h (by decide)
theorem heap_size_alloc_cells (w : World) (cs : Array Value) (t : TypeId) : (w.alloc (.cells cs t)).heap.size = w.heap.size + 1 := by simp
/-- No number of the chain is 0. -/
def NumOk (c : List Lk) : Prop := ∀ e, Lk.num e ∈ c → e ≠ 0
theorem hit_mem {q : Lk → Bool} {c : List Lk} {k : Lk} {r : List Lk} (h : hit q c = k :: r) : k ∈ c ∧ q k = true := by
  induction c with
  | nil => cases h
  | cons x l ih =>
    unfold hit at h
    cases hq : q x with
    | true => rw [hq] at h; injection h with h1 h2; subst h1; exact ⟨List.mem_cons_self, hq⟩
    | false => rw [hq] at h; exact ⟨List.mem_cons_of_mem _ (ih h).1, (ih h).2⟩


theorem idle_num (a b c : Addr) (w : World) :
    CallsD Tryz.prog 161 #[.pointer (some a), .pointer (some b), .pointer (some c)] .returning w fun e u' w' => e = .returned (.tuple #[]) ∧ u' = .returning ∧ w' = w := by
  refine callsD_of_wpS Tryz.func161 rfl fun c₀ cs hu => ?_
  apply wpS_seq
  apply wpS_region
  simp [wpOpsS, go_sem, recoverD, hu, Tryz.ntmps161, Exit.thenS]
  refine wpS_cond (t := false) (by simp [Act.eval, Array.replicate]) ?_
  simp only [Bool.false_eq_true, if_false]
  refine wpS_of_wp (wp_skip ?_)
  cases c₀
  simp_all [bodyPostS, results, Tryz.results161]

set_option maxRecDepth 100000 in
set_option maxHeartbeats 1000000 in
theorem ask_num {w W : World} {c : List Lk} {v : Value} (hG : Glob w) (h : ErrIs w c v) (hz : NumOk c) (hW : Below w.heap.size w W) :
    Calls Tryz.prog 128 #[v] W (AskPost Lk.isNum c w W 159 (.agg #[.int .i64 0])) := by
  have hmf : ∀ (fn : Fn) (first cap : Array Value) (w : World), (Instr.makeFunc fn first cap).run Tryz.prog w = .ok (.func fn first cap) w := fun _ _ _ _ => rfl
  have hb1 : Below W.heap.size W (((W.alloc (.cells #[(.int .i64 0)] 159)).alloc (.cells #[.bool false] 4)).alloc (.cells #[(.int .i64 0)] 159)) :=
    (((Below.refl _ _).alloc (Nat.le_refl _) _).alloc (by simp) _).alloc (by simp; omega) _
  have HA := Lib.hid (errAs_num (bt := W.heap.size) hG h (hW.trans (hb1.mono hW.size)) (block_alloc (block_alloc (heap_alloc_new W _))))
  have HB1 := Lib.hid hb1
  have HE := Lib.hid h
  clear hb1 h hW hG
  go_enter_defers Tryz.func128, Tryz.ntmps128
  go_wp2_with fail
  refine (HA.out).mono ?_
  rintro e w1 ⟨ho, hp⟩
  have b1 : w1.heap[W.heap.size + 1]? = some (.cells #[.bool false] 4 (0, 0)) := (ho.block _ (by simp) (by omega)).trans (block_alloc (by rw [← heap_size_alloc_cells W #[(.int .i64 0)] 159]; exact heap_alloc_new _ _))
  have b2 : w1.heap[W.heap.size + 1 + 1]? = some (.cells #[(.int .i64 0)] 159 (0, 0)) := (ho.block _ (by simp) (by omega)).trans (by rw [← heap_size_alloc_cells W #[(.int .i64 0)] 159, ← heap_size_alloc_cells _ #[.bool false] 4]; exact heap_alloc_new _ _)
  have c1 := cell_of_row w1 (W.heap.size + 1) 0 _ _ _ b1
  have c2 := cell_of_row w1 (W.heap.size + 1 + 1) 0 _ _ _ b2
  have f1 := free0 b1 0; have f2 := free0 b2 0
  simp at c1 c2
  have HO := Lib.hid ho
  clear ho b1 b2
  cases hh : hit Lk.isNum c with
  | nil =>
    rw [hh] at hp
    obtain ⟨rfl, hb⟩ := hp
    have c0 := cell_of_row w1 W.heap.size 0 _ _ _ hb
    have f0 := free0 hb 0
    simp at c0
    have HH := Lib.hid hh
    clear hb hh
    go_wp2
    refine leaves_cons (f := 161) (args := #[.pointer (some ⟨W.heap.size + 1 + 1, 0, none⟩), .pointer (some ⟨W.heap.size, 0, none⟩), .pointer (some ⟨W.heap.size + 1, 0, none⟩)]) (by simp) (by simp [go_sem]) ?_
    refine (idle_num _ _ _ _).mono ?_
    rintro e u' w'' ⟨rfl, rfl, rfl⟩
    refine ⟨_, ?_, ((Only.below_new HB1.out (Nat.le_refl _) HO.out).setCell (Nat.le_refl _) _).setCell (by simp) _, by rw [HH.out]⟩
    simp [results, Tryz.results128, go_sem, (two_cells (Nat.ne_of_lt (Nat.lt_succ_self W.heap.size)) _ _ c0 c1).1, (two_cells (Nat.ne_of_lt (Nat.lt_succ_self W.heap.size)) _ _ c0 c1).2]
  | cons k r =>
    rw [hh] at hp
    obtain ⟨rfl, u, y, hu, hy, hb⟩ := hp
    obtain ⟨e, rfl, rfl, rfl⟩ := inv84 hu
    have he0 : e ≠ 0 := hz e (hit_mem hh).1
    have heq : (e == 0) = false := beq_eq_false_iff_ne.2 he0
    clear he0
    simp [Value.cells] at hy
    subst hy
    have c0 := cell_of_row w1 W.heap.size 0 _ _ _ hb
    have f0 := free0 hb 0
    simp at c0
    have HH := Lib.hid hh
    have HU := Lib.hid hu
    clear hb hh hu
    go_wp2
    refine leaves_cons (f := 161) (args := #[.pointer (some ⟨W.heap.size + 1 + 1, 0, none⟩), .pointer (some ⟨W.heap.size, 0, none⟩), .pointer (some ⟨W.heap.size + 1, 0, none⟩)]) (by simp) (by simp [go_sem]) ?_
    refine (idle_num _ _ _ _).mono ?_
    rintro e u' w'' ⟨rfl, rfl, rfl⟩
    refine ⟨_, ?_, ((Only.below_new HB1.out (Nat.le_refl _) HO.out).setCell (Nat.le_refl _) _).setCell (by simp) _, by rw [HH.out]; exact ⟨_, HU.out, rfl⟩⟩
    simp [results, Tryz.results128, go_sem, (two_cells (Nat.ne_of_lt (Nat.lt_succ_self W.heap.size)) _ _ c0 c1).1, (two_cells (Nat.ne_of_lt (Nat.lt_succ_self W.heap.size)) _ _ c0 c1).2]


end Go.Proofs.YtmbonngjkgcijaaGreatDoor

namespace Go.Proofs.YtmbonngjkgcijaaGreatDoor
open Go.RowKit
def codeOf (c : List Lk) : Int := match c with
  | [] => 0
  | k :: r => match hit Lk.isNum (k :: r) with
    | .num e :: _ => e
    | _ => 2
theorem codeOf_nil {k : Lk} {r : List Lk} (h : hit Lk.isNum (k :: r) = []) : codeOf (k :: r) = 2 := by simp only [codeOf, h]
theorem codeOf_num {k : Lk} {r r' : List Lk} {e : Int} (h : hit Lk.isNum (k :: r) = .num e :: r') : codeOf (k :: r) = e := by simp only [codeOf, h]
set_option maxRecDepth 100000 in
set_option maxHeartbeats 1000000 in
theorem find_num {w W : World} {c : List Lk} {v : Value} (hG : Glob w) (h : ErrIs w c v) (hz : NumOk c) (hn : c.length < 1000) (hW : Below w.heap.size w W) :
    Calls Tryz.prog 94 #[v] W (AskPost Lk.isNum c w W 159 (.agg #[.int .i64 0])) := by
  have hb1 : Below W.heap.size W (W.alloc (.cells #[.int .i64 0] 159)) := (Below.refl _ _).alloc (Nat.le_refl _) _
  have H1 := Lib.hid (ends_any h (hW.trans (hb1.mono hW.size)) hn)
  have H2 := Lib.hid (fun (W' : World) (hb : Below W.heap.size W W') => ask_num hG h hz (hW.trans (hb.mono hW.size)))
  have HB0 := Lib.hid hb1
  clear h hG hn hW hz hb1
  go_enter Tryz.func94, Tryz.ntmps94
  go_wp2_with fail
  refine (H1.out).mono ?_
  rintro e w1 ⟨rfl, hb⟩
  have c1 := new_cell hb
  have f1 := new_free hb
  have hb1 := HB0.out.trans (hb.mono (by simp))
  have H3 := Lib.hid (H2.out w1 hb1)
  have HB := Lib.hid hb1
  have hlt : W.heap.size < w1.heap.size := by have := hb.size; simp at this; omega
  clear hb H2 hb1
  go_wp2_with fail
  refine (H3.out).mono ?_
  rintro e w2 ⟨hb2, hp⟩
  have c2 := (hb2.cell (p := ⟨W.heap.size, 0, none⟩) hlt).trans c1
  have f2 := (hb2.frozen (p := ⟨W.heap.size, 0, none⟩) hlt).trans f1
  have HB2 := Lib.hid hb2
  clear hb2 c1 f1
  cases hh : hit Lk.isNum c with
  | nil =>
    rw [hh] at hp
    obtain rfl := hp
    have HH := Lib.hid hh
    clear hh
    go_wp2
    refine bodyPost_ret (v := .tuple #[.agg #[.int .i64 0], .bool false]) (by simp [results, Tryz.results94, go_sem, c2]) rfl ⟨(HB.out.trans (HB2.out.mono HB.out.size)).setCell (Nat.le_refl _) _, by rw [HH.out]⟩
  | cons k r =>
    rw [hh] at hp
    obtain ⟨u, hu, rfl⟩ := hp
    obtain ⟨e, rfl, rfl, rfl⟩ := inv84 hu
    have HH := Lib.hid hh
    have HU := Lib.hid hu
    clear hh hu
    go_wp2
    refine bodyPost_ret (v := .tuple #[.agg #[.int .i64 e], .bool true]) (by simp [results, Tryz.results94, go_sem, c2]) rfl ⟨(HB.out.trans (HB2.out.mono HB.out.size)).setCell (Nat.le_refl _) _, by rw [HH.out]; exact ⟨_, HU.out, rfl⟩⟩

set_option maxRecDepth 100000 in
set_option maxHeartbeats 1000000 in
theorem code_any {w W : World} {c : List Lk} {v : Value} (hG : Glob w) (h : ErrIs w c v) (hz : NumOk c) (hn : c.length < 1000) (hW : Below w.heap.size w W) :
    Calls Tryz.prog 48 #[v] W fun e w' => e = .returned (.int .i64 (codeOf c)) ∧ Below W.heap.size W w' := by
  have H1 := Lib.hid (find_num hG h hz hn hW)
  cases c with
  | nil =>
    obtain rfl : v = .nilIface := h
    go_enter Tryz.func48, Tryz.ntmps48
    go_wp2
    go_ret
    exact ⟨rfl, Below.refl _ _⟩
  | cons k r =>
    obtain ⟨t, u, rfl⟩ := h.form1
    clear h hG hn hW hz
    go_enter Tryz.func48, Tryz.ntmps48
    go_wp2_with fail
    refine (H1.out).mono ?_
    rintro e w1 ⟨hb, hp⟩
    have HB := Lib.hid hb
    clear hb
    cases hh : hit Lk.isNum (k :: r) with
    | nil =>
      rw [hh] at hp
      obtain rfl := hp
      have HH := Lib.hid hh
      clear hh
      go_wp2
      go_ret
      exact ⟨by rw [codeOf_nil HH.out]; rfl, HB.out.alloc HB.out.size _⟩
    | cons k' r' =>
      rw [hh] at hp
      obtain ⟨u, hu, rfl⟩ := hp
      obtain ⟨e, rfl, rfl, rfl⟩ := inv84 hu
      have HH := Lib.hid hh
      clear hh hu
      go_wp2
      go_ret
      exact ⟨by rw [codeOf_num HH.out]; rfl, HB.out.alloc HB.out.size _⟩

end Go.Proofs.YtmbonngjkgcijaaGreatDoor

namespace Go.Proofs.YtmbonngjkgcijaaGreatDoor
open Go.RowKit
set_option maxHeartbeats 400000 in
theorem new_zero (w : World) : Calls Tryz.prog 68 #[.int .i64 0] w fun e w' => e = .returned .nilIface ∧ w = w' := by
  go_enter Tryz.func68, Tryz.ntmps68
  go_wp2
  go_ret
  exact ⟨rfl, rfl⟩
set_option maxHeartbeats 400000 in
theorem new_num (n : Int) (hn : n ≠ 0) (w : World) : Calls Tryz.prog 68 #[.int .i64 n] w fun e w' => e = .returned (.iface 159 (.agg #[.int .i64 n])) ∧ w = w' := by
  have h0 : (n == 0) = false := beq_eq_false_iff_ne.2 hn
  go_enter Tryz.func68, Tryz.ntmps68
  go_wp2
  go_ret
  exact ⟨rfl, rfl⟩

def onto (k : Lk) : List Lk → List Lk
  | [] => []
  | k' :: r => k :: k' :: r
def newL (e : Int) : List Lk := if e = 0 then [] else [.num e]
/-! New, At, In, Bound -/
set_option maxHeartbeats 400000 in
theorem at_nil (p : Int) (w : World) : Calls Tryz.prog 67 #[.int .i64 p, .nilIface] w fun e w' => e = .returned .nilIface ∧ w = w' := by
  go_enter Tryz.func67, Tryz.ntmps67
  go_wp2
  go_ret
  exact ⟨rfl, rfl⟩
set_option maxHeartbeats 400000 in
theorem at_some (p : Int) (t : TypeId) (u : Value) (w : World) : Calls Tryz.prog 67 #[.int .i64 p, .iface t u] w fun e w' => e = .returned (.iface 190 (.pointer (some ⟨w.heap.size, 0, none⟩))) ∧ w.alloc (.cells #[.iface t u, .int .i64 p] 194) = w' := by
  go_enter Tryz.func67, Tryz.ntmps67
  go_wp2
  go_ret
  exact ⟨rfl, rfl⟩
set_option maxHeartbeats 400000 in
theorem in_nil (s : ByteArray) (w : World) : Calls Tryz.prog 74 #[.string s, .nilIface] w fun e w' => e = .returned .nilIface ∧ w = w' := by
  go_enter Tryz.func74, Tryz.ntmps74
  go_wp2
  go_ret
  exact ⟨rfl, rfl⟩
set_option maxHeartbeats 400000 in
theorem in_some (s : ByteArray) (t : TypeId) (u : Value) (w : World) : Calls Tryz.prog 74 #[.string s, .iface t u] w fun e w' => e = .returned (.iface 198 (.pointer (some ⟨w.heap.size, 0, none⟩))) ∧ w.alloc (.cells #[.iface t u, .string s] 200) = w' := by
  go_enter Tryz.func74, Tryz.ntmps74
  go_wp2
  go_ret
  exact ⟨rfl, rfl⟩
set_option maxHeartbeats 400000 in
theorem bound_nil (l g : Int) (w : World) : Calls Tryz.prog 73 #[.int .i64 l, .int .i64 g, .nilIface] w fun e w' => e = .returned .nilIface ∧ w = w' := by
  go_enter Tryz.func73, Tryz.ntmps73
  go_wp2
  go_ret
  exact ⟨rfl, rfl⟩
set_option maxHeartbeats 400000 in
theorem bound_some (l g : Int) (t : TypeId) (u : Value) (w : World) : Calls Tryz.prog 73 #[.int .i64 l, .int .i64 g, .iface t u] w fun e w' => e = .returned (.iface 195 (.pointer (some ⟨w.heap.size, 0, none⟩))) ∧ w.alloc (.cells #[.iface t u, .int .i64 l, .int .i64 g] 197) = w' := by
  go_enter Tryz.func73, Tryz.ntmps73
  go_wp2
  go_ret
  exact ⟨rfl, rfl⟩

def MadePost (c : List Lk) (w : World) (e : Ending) (w' : World) : Prop := ∃ v, e = .returned v ∧ ErrIs w' c v ∧ Below w.heap.size w w'
theorem at_any {w : World} (p : Int) {c : List Lk} {v : Value} (h : ErrIs w c v) : Calls Tryz.prog 67 #[.int .i64 p, v] w (MadePost (onto (.plc p) c) w) := by
  cases c with
  | nil =>
    obtain rfl : v = .nilIface := h
    exact (at_nil p w).mono fun e w' ⟨he, hw⟩ => ⟨_, he, rfl, hw ▸ Below.refl _ _⟩
  | cons k r =>
    obtain ⟨t, u, rfl⟩ := h.form1
    refine (at_some p t u w).mono fun e w' ⟨he, hw⟩ => ?_
    subst hw
    have hb : Below w.heap.size w (w.alloc (.cells #[.iface t u, .int .i64 p] 194)) := (Below.refl _ _).alloc (Nat.le_refl _) _
    exact ⟨_, he, ⟨by simp, _, _, rfl, heap_alloc_new w _, h.below hb⟩, hb⟩
theorem in_any {w : World} (p : ByteArray) {c : List Lk} {v : Value} (h : ErrIs w c v) : Calls Tryz.prog 74 #[.string p, v] w (MadePost (onto (.nam p) c) w) := by
  cases c with
  | nil =>
    obtain rfl : v = .nilIface := h
    exact (in_nil p w).mono fun e w' ⟨he, hw⟩ => ⟨_, he, rfl, hw ▸ Below.refl _ _⟩
  | cons k r =>
    obtain ⟨t, u, rfl⟩ := h.form1
    refine (in_some p t u w).mono fun e w' ⟨he, hw⟩ => ?_
    subst hw
    have hb : Below w.heap.size w (w.alloc (.cells #[.iface t u, .string p] 200)) := (Below.refl _ _).alloc (Nat.le_refl _) _
    exact ⟨_, he, ⟨by simp, _, _, rfl, heap_alloc_new w _, h.below hb⟩, hb⟩
theorem bound_any {w : World} (l g : Int) {c : List Lk} {v : Value} (h : ErrIs w c v) : Calls Tryz.prog 73 #[.int .i64 l, .int .i64 g, v] w (MadePost (onto (.bnd l g) c) w) := by
  cases c with
  | nil =>
    obtain rfl : v = .nilIface := h
    exact (bound_nil l g w).mono fun e w' ⟨he, hw⟩ => ⟨_, he, rfl, hw ▸ Below.refl _ _⟩
  | cons k r =>
    obtain ⟨t, u, rfl⟩ := h.form1
    refine (bound_some l g t u w).mono fun e w' ⟨he, hw⟩ => ?_
    subst hw
    have hb : Below w.heap.size w (w.alloc (.cells #[.iface t u, .int .i64 l, .int .i64 g] 197)) := (Below.refl _ _).alloc (Nat.le_refl _) _
    exact ⟨_, he, ⟨by simp, _, _, rfl, heap_alloc_new w _, h.below hb⟩, hb⟩
theorem new_any (n : Int) (w : World) : Calls Tryz.prog 68 #[.int .i64 n] w (MadePost (newL n) w) := by
  by_cases h : n = 0
  · subst h
    exact (new_zero w).mono fun e w' ⟨he, hw⟩ => ⟨_, he, rfl, hw ▸ Below.refl _ _⟩
  · unfold newL
    rw [if_neg h]
    exact (new_num n h w).mono fun e w' ⟨he, hw⟩ => ⟨_, he, ⟨rfl, rfl⟩, hw ▸ Below.refl _ _⟩

end Go.Proofs.YtmbonngjkgcijaaGreatDoor

namespace Go.Proofs.YtmbonngjkgcijaaGreatDoor
open Go.Shelf
def Tryz.len64A_ren : Go.Shelf.Ren := ⟨fun | 129 => 166 | n => n, fun | 53 => 175 | 3 => 3 | 4 => 4 | 46 => 166 | 5 => 5 | 9 => 9 | n => n, fun | n => n⟩
theorem Tryz.len64A : Go.Proofs.Lays.n129 Tryz.prog Tryz.len64A_ren := {
  mixed := by kernel_rfl
  f129 := Tryz.func166.trans (congrArg some (by kernel_rfl))
  t3 := Tryz.underlying3
  a3 := Tryz.isAgg3
  z3 := Tryz.sizeOf3
  v3 := Tryz.zeroValue3
  t4 := Tryz.underlying4
  a4 := Tryz.isAgg4
  z4 := Tryz.sizeOf4
  v4 := Tryz.zeroValue4
  t5 := Tryz.underlying5
  a5 := Tryz.isAgg5
  z5 := Tryz.sizeOf5
  v5 := Tryz.zeroValue5
  t9 := Tryz.underlying9
  a9 := Tryz.isAgg9
  z9 := Tryz.sizeOf9
  v9 := Tryz.zeroValue9
  t46 := Tryz.underlying166
  a46 := Tryz.isAgg166
  z46 := Tryz.sizeOf166
  v46 := Tryz.zeroValue166
  t53 := Tryz.underlying175
  a53 := Tryz.isAgg175
  z53 := Tryz.sizeOf175
  v53 := Tryz.zeroValue175 }
end Go.Proofs.YtmbonngjkgcijaaGreatDoor

namespace Go.Proofs.YtmbonngjkgcijaaGreatDoor
open Go.RowKit Go.Shelf Go.Lib

/-! the bytes of a number -/
def beB : Nat → Nat → List UInt8
  | 0, _ => []
  | k + 1, n => beB k (n / 256) ++ [UInt8.ofNat (n % 256)]
def sizeB (n : Nat) : Nat := (Lib.bitLen n + 7) / 8
def natB (n : Nat) : List UInt8 := UInt8.ofNat (sizeB n) :: beB (sizeB n) n
theorem beB_length (k n : Nat) : (beB k n).length = k := by
  induction k generalizing n with
  | zero => rfl
  | succ k ih => rw [beB, List.length_append, ih]; rfl
theorem beB_at {k n j : Nat} (hj : j < k) : (beB k n)[j]? = some (UInt8.ofNat (n / 256 ^ (k - 1 - j) % 256)) := by
  induction k generalizing n with
  | zero => omega
  | succ k ih =>
    rw [beB]
    by_cases h : j < k
    · rw [List.getElem?_append_left (by rw [beB_length]; exact h), ih h, Nat.div_div_eq_div_mul, show k + 1 - 1 - j = (k - 1 - j) + 1 from by omega, Nat.pow_succ, Nat.mul_comm]
    · obtain rfl : j = k := by omega
      rw [List.getElem?_append_right (by rw [beB_length]; omega), beB_length]
      simp
theorem bitLenAux_le (f x : Nat) : Lib.bitLenAux f x ≤ f := by
  induction f generalizing x with
  | zero => simp [Lib.bitLenAux]
  | succ f ih =>
    rw [Lib.bitLenAux]
    split
    · omega
    · have := ih (x / 2); omega
theorem bitLen_le (n : Nat) (hn : n ≤ 18446744073709551615) : Lib.bitLen n ≤ 64 := bitLenAux_le 64 n
set_option maxRecDepth 100000 in
set_option maxHeartbeats 1000000 in
theorem onat_any (n : Nat) (hn : n ≤ 18446744073709551615) (w : World) :
    Calls Tryz.prog 144 #[.int .u64 (n : Int)] w fun e w' => ∃ v, e = .returned v ∧ OwnBy w' w.heap.size v (natB n) ∧ Below w.heap.size w w' := by
  have H69 : Hid (∀ W, Calls Tryz.prog 166 #[.int .u64 (n : Int)] W fun e w' => ∃ L : Nat, e = .returned (.int .i64 (L : Int)) ∧ w' = W ∧ L ≤ 64 ∧ (L + 7) / 8 = sizeB n) := fun W =>
    (Any.bits_Len64 Tryz.len64A (n : Int) W (by omega) (by omega)).mono fun e w' ⟨he, hw⟩ => ⟨_, he, hw, by simpa using bitLen_le n hn, by simp [sizeB]⟩
  have hn0 : (0 : Int) ≤ (n : Int) := by omega
  have hn1 : (n : Int) ≤ 18446744073709551615 := by omega
  go_enter Tryz.func144, Tryz.ntmps144
  go_wp2_with fail
  refine (H69.out _).mono ?_
  rintro e w' ⟨L, rfl, rfl, hL, hLs⟩
  generalize hs : sizeB n = s at hLs
  have HS := Lib.hid hs
  have hs8 : s ≤ 8 := by omega
  have q1 : ((L : Int) + 7) / 8 = (s : Int) := by omega
  have q2 : (s : Int) % 256 = (s : Int) := by omega
  have q3 : (0 : Int) ≤ (L : Int) + 7 := by omega
  have q4 : (L : Int) + 7 ≤ 71 := by omega
  have hsi : (s : Int) ≤ 8 := by omega
  clear hLs hs
  go_wp2_with fail
  go_loopw [0, 5] (fun m i wr => ∃ k : Nat, k ≤ s ∧ i = .int .i64 k ∧ m = .int .u64 ((n / 256 ^ (s - k) : Nat) : Int) ∧ Below w.heap.size w wr ∧
    ∃ arr : Array Value, wr.heap[w.heap.size]? = some (.cells arr 240 (0, 0)) ∧ arr.size = 9 ∧ arr[0]? = some (.int .u8 s) ∧ (∀ j, j < 9 → ∃ x : Int, arr[j]? = some (.int .u8 x)) ∧ ∀ j, k < j → j ≤ s → arr[j]? = some (.int .u8 ((n / 256 ^ (s - j) % 256 : Nat) : Int))) (fun _ i _ => (RowKit.intOf i).toNat)
  case atStart =>
    refine ⟨s, Nat.le_refl _, by rw [q1], by simp, (Below.refl _ _).alloc (Nat.le_refl _) _, _, heap_alloc_new w _, by simp, by simp, ?_, fun j h1 h2 => by omega⟩
    intro j hj
    match j, hj with
    | 0, _ => exact ⟨_, rfl⟩
    | 1, _ => exact ⟨_, rfl⟩
    | 2, _ => exact ⟨_, rfl⟩
    | 3, _ => exact ⟨_, rfl⟩
    | 4, _ => exact ⟨_, rfl⟩
    | 5, _ => exact ⟨_, rfl⟩
    | 6, _ => exact ⟨_, rfl⟩
    | 7, _ => exact ⟨_, rfl⟩
    | 8, _ => exact ⟨_, rfl⟩
  case round =>
    obtain ⟨k, hk, rfl, rfl, hb, arr, harr, hsz, h0, hall, hrest⟩ := hrel
    have hm0 : n / 256 ^ (s - k) ≤ n := Nat.div_le_self _ _
    have hm1 : ((n / 256 ^ (s - k) : Nat) : Int) ≤ 18446744073709551615 := by omega
    generalize hm : n / 256 ^ (s - k) = m at *
    have HM := Lib.hid hm
    have HA := Lib.hid harr
    have H0 := Lib.hid h0
    have HALL := Lib.hid hall
    have HR := Lib.hid hrest
    have HB := Lib.hid hb
    have HSZ := Lib.hid hsz
    cases k with
    | zero =>
      clear hm harr h0 hall hrest hb hsz
      have p1 : (0 : Int) ≤ 1 + (s : Int) := by omega
      have p2 : 1 + (s : Int) ≤ 9 := by omega
      go_wp2
      go_ret
      refine ⟨_, rfl, .inr ⟨w.heap.size, 9, ?_, Nat.le_refl _, heap_lt HA.out, ?_, by unfold maxLen; omega, ?_, ?_⟩, HB.out⟩
      · have : (natB n).length = 1 + s := by unfold natB; rw [List.length_cons, beB_length, HS.out]; omega
        rw [this]; rfl
      · have : (natB n).length = 1 + s := by unfold natB; rw [List.length_cons, beB_length, HS.out]; omega
        omega
      · intro j b hj
        rw [cell_of_row wr w.heap.size j _ _ _ HA.out]
        cases j with
        | zero =>
          have : b = UInt8.ofNat s := by unfold natB at hj; rw [HS.out] at hj; simpa using hj.symm
          rw [H0.out, this]
          simp
          omega
        | succ j =>
          unfold natB at hj
          rw [HS.out, List.getElem?_cons_succ] at hj
          have hjs : j < s := by
            have := (List.getElem?_eq_some_iff.1 hj).1
            rwa [beB_length] at this
          rw [HR.out (j + 1) (by omega) (by omega)]
          rw [beB_at hjs] at hj
          have hb := Option.some.inj hj
          rw [← hb, show s - (j + 1) = s - 1 - j from by omega]
          simp
      · intro j hj
        obtain ⟨x, hx⟩ := HALL.out j hj
        exact ⟨by rw [cell_of_row wr w.heap.size j _ _ _ HA.out, hx]; rfl, free0 HA.out j⟩
    | succ k =>
      obtain ⟨x0, hx0⟩ := hall (k + 1) (by omega)
      have c0 := (cell_of_row wr w.heap.size (k + 1) _ _ _ harr).trans hx0
      have f0 := free0 harr (k + 1)
      have hk9 : ((k : Int) + 1) < 9 := by omega
      clear hm harr h0 hall hrest hb hsz hx0
      go_wp2
      go_roundw
      case rel =>
        refine ⟨k, by omega, rfl, ?_, HB.out.setCell (Nat.le_refl _) _, arr.setIfInBounds (k + 1) (.int .u8 ((m : Int) % 256)), ?_, ?_, ?_, ?_, ?_⟩
        · have e : n / 256 ^ (s - k) = m / 256 := by
            rw [← HM.out, show s - k = (s - (k + 1)) + 1 from by omega, Nat.pow_succ, Nat.div_div_eq_div_mul]
          rw [e]
          rfl
        · simp [World.setCell, Array.getElem?_modify, HA.out]
        · simpa using HSZ.out
        · rw [Array.getElem?_setIfInBounds_ne (by omega)]; exact H0.out
        · intro j hj
          by_cases hjk : k + 1 = j
          · subst hjk
            exact ⟨_, by rw [Array.getElem?_setIfInBounds_self_of_lt (by rw [HSZ.out]; omega)]⟩
          · rw [Array.getElem?_setIfInBounds_ne hjk]; exact HALL.out j hj
        · intro j hj hjs
          by_cases hjk : k + 1 = j
          · subst hjk
            rw [Array.getElem?_setIfInBounds_self_of_lt (by rw [HSZ.out]; omega), HM.out]
            simp
          · rw [Array.getElem?_setIfInBounds_ne hjk]; exact HR.out j (by omega) hjs
      case measure => simp [RowKit.intOf] <;> omega
end Go.Proofs.YtmbonngjkgcijaaGreatDoor
