/- errors.As at every chain, for a target of each of the four kinds. -/
import Derived.Test.YtmchmlkbpocboaaGreatDoorZEoB
set_option linter.unusedSimpArgs false
set_option linter.unusedVariables false
namespace Go.Proofs.YtmchmlkbpocboaaGreatDoor
open Go.RowKit Go.Extern.Stop Go.Stop Go.Extern

/-- What package errors' variable holds. -/
def Glob (w : World) : Prop := w.cell? ⟨0, 0, none⟩ = some (.iface 203 (.agg #[.pointer (some ⟨1, 98, none⟩)]))
theorem Glob.lt {w : World} (h : Glob w) : 0 < w.heap.size := by
  refine Classical.byContradiction fun h0 => ?_
  unfold Glob at h
  simp [World.cell?, Array.getElem?_eq_none (Nat.le_of_not_lt h0)] at h
theorem Glob.below {w W : World} (h : Glob w) (hW : Below w.heap.size w W) : Glob W := (hW.cell (p := ⟨0, 0, none⟩) h.lt).trans h
theorem Only.after {bt : Nat} {W W2 w' : World} (hb : Below W.heap.size W W2) (h : Only bt W2 w') : Only bt W w' :=
  ⟨h.os.trans hb.os, h.tape.trans hb.tape, h.output.trans hb.output, Nat.le_trans hb.size h.size, fun k hk hne => (h.block k (Nat.lt_of_lt_of_le hk hb.size) hne).trans (hb.block k hk)⟩
theorem AsPost.after {q : Lk → Bool} {c : List Lk} {w W W2 : World} {bt : Nat} {ET : TypeId} {old : Value} {e : Ending} {w' : World} (hb : Below W.heap.size W W2) (h : AsPost q c w W2 bt ET old e w') : AsPost q c w W bt ET old e w' :=
  ⟨Only.after hb h.1, h.2⟩
theorem AsPost.ends {q : Lk → Bool} {c : List Lk} {w W : World} {bt : Nat} {ET : TypeId} {old : Value} {e : Ending} {w' : World} (h : AsPost q c w W bt ET old e w') : ∃ b : Bool, e = .returned (.bool b) := by
  obtain ⟨_, h⟩ := h
  cases hh : hit q c with
  | nil => rw [hh] at h; exact ⟨_, h.1⟩
  | cons k r => rw [hh] at h; exact ⟨_, h.1⟩


set_option maxRecDepth 100000 in
set_option maxHeartbeats 1000000 in
theorem errAs_num {w W : World} {c : List Lk} {v old : Value} {bt : Nat} (hG : Glob w) (h : ErrIs w c v) (hW : Below w.heap.size w W) (hbt : W.heap[bt]? = some (.cells #[old] 121 (0, 0))) :
    Calls Tryz.prog 126 #[v, .iface 171 (.pointer (some ⟨bt, 0, none⟩))] W (AsPost Lk.isNum c w W bt 121 old) := by
  by_cases hc : c = []
  · subst hc
    obtain rfl : v = .nilIface := h
    have HBT := Lib.hid hbt
    clear hbt
    go_enter Tryz.func126, Tryz.ntmps126
    go_wp2
    go_ret
    exact ⟨Only.of_below (Below.refl _ _), rfl, HBT.out⟩
  · obtain ⟨vt, vu, rfl⟩ : ∃ t u, v = .iface t u := by
      cases c with
      | nil => exact absurd rfl hc
      | cons k r => exact h.form1
    have h85 := @run_callFunc_extern Tryz.prog 137 _ (fun args => ReflectliteValue.unpack (args.getD 0 (.tuple #[]))) Tryz.func137 (by kernel_rfl) (by kernel_rfl) (by kernel_rfl) (by kernel_rfl)
    have h86 := @run_callFunc_extern Tryz.prog 138 _ (ReflectliteValue.methodAny (ReflectliteValue.valueError "reflectlite.Value.Type" 0) (fun t _ _ _ => ReflectliteType.toType t)) Tryz.func138 (by kernel_rfl) (by kernel_rfl) (by kernel_rfl) (by kernel_rfl)
    have h87 := @run_callFunc_extern Tryz.prog 139 _ (ReflectliteValue.method (ReflectliteValue.valueError "reflectlite.Value.IsNil" 0) ReflectliteValue.isNil) Tryz.func139 (by kernel_rfl) (by kernel_rfl) (by kernel_rfl) (by kernel_rfl)
    have h105 := @run_callFunc_extern Tryz.prog 163 _ (ReflectliteType.abiMethod fun t => do pure (.int .u8 (← Rtype.kind t))) Tryz.func163 (by kernel_rfl) (by kernel_rfl) (by kernel_rfl) (by kernel_rfl)
    have h116 := @run_callFunc_extern Tryz.prog 176 _ (ReflectliteType.method ReflectliteType.elem) Tryz.func176 (by kernel_rfl) (by kernel_rfl) (by kernel_rfl) (by kernel_rfl)
    have h117 := @run_callFunc_extern Tryz.prog 177 _ (ReflectliteType.relation "Implements" ReflectliteType.implements_) Tryz.func177 (by kernel_rfl) (by kernel_rfl) (by kernel_rfl) (by kernel_rfl)
    have f1 := valueOf129 ⟨bt, 0, none⟩ W
    have f2 := type129
    have mK := methodKind
    have mE := methodElem
    have mI := methodImplements
    have k1 := kind129
    have k2 := kind84
    have e1 := elem129
    have i1 := implements84
    have hb1 : Below W.heap.size W ((W.alloc (.cells #[.pointer (some ⟨bt, 0, none⟩)] 171)).alloc (.cells #[.pointer (some ⟨1, 171, none⟩), .pointer (some ⟨W.heap.size, 0, none⟩), .int .u64 150] 192)) :=
      ((Below.refl _ _).alloc (Nat.le_refl _) _).alloc (by simp) _
    have n1 := isNil129 ⟨W.heap.size, 0, none⟩ ⟨bt, 0, none⟩ ((W.alloc (.cells #[.pointer (some ⟨bt, 0, none⟩)] 171)).alloc (.cells #[.pointer (some ⟨1, 171, none⟩), .pointer (some ⟨W.heap.size, 0, none⟩), .int .u64 150] 192)) (by simp)
    have g1 : ((W.alloc (.cells #[.pointer (some ⟨bt, 0, none⟩)] 171)).alloc (.cells #[.pointer (some ⟨1, 171, none⟩), .pointer (some ⟨W.heap.size, 0, none⟩), .int .u64 150] 192)).cell? ⟨0, 0, none⟩ = some (.iface 203 (.agg #[.pointer (some ⟨1, 98, none⟩)])) :=
      hG.below (hW.trans (hb1.mono hW.size))
    have HA := Lib.hid (as_num (ba := W.heap.size) h hc (hW.trans (hb1.mono hW.size)) (block_alloc (heap_alloc_new W _)) (block_alloc (block_alloc hbt)))
    have HB1 := Lib.hid hb1
    clear hb1 h hW hbt hG hc
    go_enter Tryz.func126, Tryz.ntmps126
    go_wp2_with (go_at_call 140; refine (HA.out).mono ?_; rintro e w1 hp; have HP := Lib.hid hp; obtain ⟨b, rfl⟩ := hp.ends; clear hp)
    go_ret
    exact AsPost.after HB1.out HP.out

end Go.Proofs.YtmchmlkbpocboaaGreatDoor
