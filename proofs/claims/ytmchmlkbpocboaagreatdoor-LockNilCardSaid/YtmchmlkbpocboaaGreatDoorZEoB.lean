/- errors.as at every chain, for a target of each of the four kinds: the first link of that kind is found and set, or none. -/
import Derived.Test.YtmchmlkbpocboaaGreatDoorZEoF
import Derived.Deep.LoopGhost
set_option linter.unusedSimpArgs false
set_option linter.unusedVariables false
namespace Go.Proofs.YtmchmlkbpocboaaGreatDoor
open Go.RowKit Go.Extern.Stop Go.Stop Go.Extern

def Lk.isNum : Lk → Bool | .num _ => true | _ => false
def Lk.isNam : Lk → Bool | .nam _ => true | _ => false
def Lk.isBnd : Lk → Bool | .bnd _ _ => true | _ => false
/-- The chain from its first link of a kind on. -/
def hit (q : Lk → Bool) : List Lk → List Lk
  | [] => []
  | k :: r => match q k with | true => k :: r | false => hit q r

/-- Of what was there only the block bt may have turned. -/
structure Only (bt : Nat) (W w' : World) : Prop where
  os : w'.os = W.os
  tape : w'.tape = W.tape
  output : w'.output = W.output
  size : W.heap.size ≤ w'.heap.size
  block : ∀ k, k < W.heap.size → k ≠ bt → w'.heap[k]? = W.heap[k]?

theorem Only.of_below {bt : Nat} {W w' : World} (h : Below W.heap.size W w') : Only bt W w' := ⟨h.os, h.tape, h.output, h.size, fun k hk _ => h.block k hk⟩
theorem Only.setCell {bt : Nat} {W w1 : World} (h : Only bt W w1) (i : Nat) (u : Value) : Only bt W (w1.setCell ⟨bt, i, none⟩ u) :=
  ⟨h.os, h.tape, h.output, by simpa [World.setCell] using h.size, fun k hk hne => (Below.heap_setCell w1 _ u k hne).trans (h.block k hk hne)⟩

theorem Only.trans_alloc {bt : Nat} {W w1 : World} (h : Only bt W w1) (o : Obj) : Only bt W (w1.alloc o) :=
  ⟨h.os, h.tape, h.output, Nat.le_trans h.size (by simp), fun k hk hne => (Below.heap_alloc w1 o k (Nat.lt_of_lt_of_le hk h.size)).trans (h.block k hk hne)⟩
/-- What errors.As leaves: whether a link of the kind was found; and in the target's one cell that link's value, or what was there. -/
def AsPost (q : Lk → Bool) (c : List Lk) (w W : World) (bt : Nat) (ET : TypeId) (old : Value) (e : Ending) (w' : World) : Prop :=
  Only bt W w' ∧
  match hit q c with
  | [] => e = .returned (.bool false) ∧ w'.heap[bt]? = some (.cells #[old] ET (0, 0))
  | k :: r => e = .returned (.bool true) ∧ ∃ u y, ErrIs w (k :: r) (.iface ET u) ∧ u.cells = #[y] ∧ w'.heap[bt]? = some (.cells #[y] ET (0, 0))

theorem set0 {W : World} {b : Nat} {x y : Value} {t : TypeId} (h : W.heap[b]? = some (.cells #[x] t (0, 0))) : (W.setCell ⟨b, 0, none⟩ y).heap[b]? = some (.cells #[y] t (0, 0)) := by
  simp [World.setCell, Array.getElem?_modify, h]
theorem block_alloc {w : World} {b : Nat} {o p : Obj} (h : w.heap[b]? = some o) : (w.alloc p).heap[b]? = some o := (Below.heap_alloc w p b (ErrIs.lt h)).trans h


set_option maxRecDepth 100000 in
set_option maxHeartbeats 1000000 in
theorem as_num {w W : World} {c : List Lk} {v old : Value} {bt ba : Nat} (h : ErrIs w c v) (hc : c ≠ []) (hW : Below w.heap.size w W) (hba : W.heap[ba]? = some (.cells #[.pointer (some ⟨bt, 0, none⟩)] 171 (0, 0))) (hbt : W.heap[bt]? = some (.cells #[old] 121 (0, 0))) :
    Calls Tryz.prog 140 #[v, .iface 171 (.pointer (some ⟨bt, 0, none⟩)), .agg #[.pointer (some ⟨1, 171, none⟩), .pointer (some ⟨ba, 0, none⟩), .int .u64 150], .iface 203 (.agg #[.pointer (some ⟨1, 121, none⟩)])] W (AsPost Lk.isNum c w W bt 121 old) := by
  have hwW : w.heap.size ≤ W.heap.size := hW.size
  have h67 := @run_callFunc_extern Tryz.prog 145 _ ReflectliteType.typeOf Tryz.func145 (by kernel_rfl) (by kernel_rfl) (by kernel_rfl) (by kernel_rfl)
  have h114 := @run_callFunc_extern Tryz.prog 174 _ (ReflectliteType.relation "AssignableTo" ReflectliteType.assignableTo) Tryz.func174 (by kernel_rfl) (by kernel_rfl) (by kernel_rfl) (by kernel_rfl)
  have h89 := @run_callFunc_extern Tryz.prog 146 _ (ReflectliteValue.method (ReflectliteValue.valueError "reflectlite.Value.Elem" 0) ReflectliteValue.elem) Tryz.func146 (by kernel_rfl) (by kernel_rfl) (by kernel_rfl) (by kernel_rfl)
  have h85 := @run_callFunc_extern Tryz.prog 137 _ (fun args => ReflectliteValue.unpack (args.getD 0 (.tuple #[]))) Tryz.func137 (by kernel_rfl) (by kernel_rfl) (by kernel_rfl) (by kernel_rfl)
  have h90 := @run_callFunc_extern Tryz.prog 147 _ ReflectliteValue.set Tryz.func147 (by kernel_rfl) (by kernel_rfl) (by kernel_rfl) (by kernel_rfl)
  have mA := methodAssignableTo
  have HW := Lib.hid hW
  have HBA := Lib.hid hba
  have HBT := Lib.hid hbt
  clear hba hbt hW
  go_enter Tryz.func140, Tryz.ntmps140
  go_wp2_with fail
  go_loopg [0] c.length (fun g v0 wr => ∃ r : List Lk, r.length = g ∧ r ≠ [] ∧ ErrIs w r v0 ∧ hit Lk.isNum r = hit Lk.isNum c ∧ Below (W.heap.size + 1) (W.alloc (.cells #[.pointer (some ⟨1, 171, none⟩), .pointer (some ⟨ba, 0, none⟩), .int .u64 150] 192)) wr)
  case atStart => exact ⟨c, rfl, hc, h, rfl, Below.refl _ _⟩
  case round =>
    clear h
    obtain ⟨r, hg, hne, hr, hh, hb⟩ := hrel
    have HH := Lib.hid hh
    have HG := Lib.hid hg
    clear hh hg
    have hbox : wr.heap[W.heap.size]? = some (.cells #[.pointer (some ⟨1, 171, none⟩), .pointer (some ⟨ba, 0, none⟩), .int .u64 150] 192 (0, 0)) := new_of_below hb
    have hc0 := cell_of_row wr W.heap.size 0 _ _ _ hbox
    have hc1 := cell_of_row wr W.heap.size 1 _ _ _ hbox
    have hc2 := cell_of_row wr W.heap.size 2 _ _ _ hbox
    have hbW : Below W.heap.size W wr := ((Below.refl _ _).alloc (Nat.le_refl _) _).trans (hb.mono (Nat.le_succ _))
    have hbat : wr.heap[ba]? = _ := (hbW.block ba (ErrIs.lt HBA.out)).trans HBA.out
    have hbtt : wr.heap[bt]? = _ := (hbW.block bt (ErrIs.lt HBT.out)).trans HBT.out
    have cba := cell_of_row wr ba 0 _ _ _ hbat
    have HBAT := Lib.hid hbat
    have HBTT := Lib.hid hbtt
    clear hbox hbat hbtt
    simp at hc0 hc1 hc2 cba
    cases r with
    | nil => exact absurd rfl hne
    | cons k0 r =>
      cases k0 with

      | num e =>
        obtain ⟨rfl, rfl⟩ := hr
        have e1 := typeOf84
        have e2 := assign84to84
        have e3 := elemV129 ⟨ba, 0, none⟩ ⟨bt, 0, none⟩ wr cba
        have e4 := valueOf84 e wr
        have e5 := set84 bt wr.heap.size e old (wr.alloc (.cells #[.int .i64 e] 121)) (by simp) (by rw [cell_of_row _ bt 0 _ _ _ (block_alloc HBTT.out)]; rfl) (free0 (block_alloc HBTT.out) 0)
        clear hc hne hb
        go_wp2
        go_ret
        exact ⟨((Only.of_below hbW).trans_alloc _).setCell 0 _, by rw [← HH.out]; exact ⟨rfl, _, _, ⟨rfl, rfl⟩, rfl, set0 (block_alloc HBTT.out)⟩⟩
      | nam s =>
        obtain ⟨hr1, b, x, rfl, hb1, hx⟩ := hr
        have hb2 := cell0 (HW.out.trans (hbW.mono hwW)) hb1
        have e1 := typeOf94
        have e2 := assign94to84
        have e3 := noAs94
        have e4 := hasU94
        have e5 := m94u b x wr hb2
        obtain ⟨k1, r1, rfl⟩ : ∃ k1 r1, r = k1 :: r1 := by
          cases r with
          | nil => exact absurd rfl hr1
          | cons k1 r1 => exact ⟨k1, r1, rfl⟩
        obtain ⟨xt, xu, rfl⟩ := hx.form1
        clear hc hne hb1 hb2 hr1
        have HB := Lib.hid hb
        clear hb
        go_wp2_with (go_at_call 168; refine (link_unwrap _ _).mono ?_; rintro e w1 ⟨rfl, rfl⟩)
        go_roundg (r1.length + 1)
        case measure => rw [← HG.out]; simp
        case rel => exact ⟨k1 :: r1, rfl, by simp, hx, HH.out, HB.out.alloc (by have := HB.out.size; simpa using this) _⟩
      | bnd l g =>
        obtain ⟨hr1, b, x, rfl, hb1, hx⟩ := hr
        have hb2 := cell0 (HW.out.trans (hbW.mono hwW)) hb1
        have e1 := typeOf76
        have e2 := assign76to84
        have e3 := noAs76
        have e4 := hasU76
        have e5 := m76u b x wr hb2
        obtain ⟨k1, r1, rfl⟩ : ∃ k1 r1, r = k1 :: r1 := by
          cases r with
          | nil => exact absurd rfl hr1
          | cons k1 r1 => exact ⟨k1, r1, rfl⟩
        obtain ⟨xt, xu, rfl⟩ := hx.form1
        clear hc hne hb1 hb2 hr1
        have HB := Lib.hid hb
        clear hb
        go_wp2_with (go_at_call 168; refine (link_unwrap _ _).mono ?_; rintro e w1 ⟨rfl, rfl⟩)
        go_roundg (r1.length + 1)
        case measure => rw [← HG.out]; simp
        case rel => exact ⟨k1 :: r1, rfl, by simp, hx, HH.out, HB.out.alloc (by have := HB.out.size; simpa using this) _⟩

end Go.Proofs.YtmchmlkbpocboaaGreatDoor
