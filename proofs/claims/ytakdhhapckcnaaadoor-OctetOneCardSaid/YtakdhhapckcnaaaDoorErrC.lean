/- errors.As at every chain, for a target of each of the four kinds. -/
import Derived.Test.YtakdhhapckcnaaaDoorErrB
set_option linter.unusedSimpArgs false
set_option linter.unusedVariables false
namespace Go.Proofs.YtakdhhapckcnaaaDoor
open Go.RowKit Go.Extern.Stop Go.Stop Go.Extern

/-- What package errors' variable holds. -/
def Glob (w : World) : Prop := w.cell? ⟨0, 0, none⟩ = some (.iface 120 (.agg #[.pointer (some ⟨1, 25, none⟩)]))
theorem Glob.lt {w : World} (h : Glob w) : 0 < w.heap.size := by
  rcases Nat.eq_zero_or_pos w.heap.size with h0 | h1
  · simp [Glob, World.cell?, h0] at h
  · exact h1
theorem Glob.below {w W : World} (h : Glob w) (hW : Below w.heap.size w W) : Glob W := (hW.cell (p := ⟨0, 0, none⟩) h.lt).trans h
theorem Only.after {bt : Nat} {W W2 w' : World} (hb : Below W.heap.size W W2) (h : Only bt W2 w') : Only bt W w' :=
  ⟨h.os.trans hb.os, h.tape.trans hb.tape, h.output.trans hb.output, Nat.le_trans hb.size h.size, fun k hk hne => (h.block k (Nat.lt_of_lt_of_le hk hb.size) hne).trans (hb.block k hk)⟩
theorem AsPost.after {q : Lk → Bool} {c : List Lk} {w W W2 : World} {bt : Nat} {ET : TypeId} {old : Value} {e : Ending} {w' : World} (hb : Below W.heap.size W W2) (h : AsPost q c w W2 bt ET old e w') : AsPost q c w W bt ET old e w' :=
  ⟨Only.after hb h.1, h.2⟩
theorem AsPost.ends {q : Lk → Bool} {c : List Lk} {w W : World} {bt : Nat} {ET : TypeId} {old : Value} {e : Ending} {w' : World} (h : AsPost q c w W bt ET old e w') : ∃ b : Bool, e = .returned (.bool b) := by
  obtain ⟨_, h⟩ := h
  cases hh : hit q c with
  | nil => rw [hh] at h; exact ⟨_, h.1⟩
  | cons k r => rw [hh] at h; exact ⟨_, h.1⟩


set_option maxRecDepth 100000 in
set_option maxHeartbeats 1000000 in
theorem errAs_num {w W : World} {c : List Lk} {v old : Value} {bt : Nat} (hG : Glob w) (h : ErrIs w c v) (hW : Below w.heap.size w W) (hbt : W.heap[bt]? = some (.cells #[old] 84 (0, 0))) :
    Calls Tryd.prog 81 #[v, .iface 129 (.pointer (some ⟨bt, 0, none⟩))] W (AsPost Lk.isNum c w W bt 84 old) := by
  by_cases hc : c = []
  · subst hc
    obtain rfl : v = .nilIface := h
    have HBT := Lib.hid hbt
    clear hbt
    go_enter Tryd.func81, Tryd.ntmps81
    go_wp2
    go_ret
    exact ⟨Only.of_below (Below.refl _ _), rfl, HBT.out⟩
  · obtain ⟨vt, vu, rfl⟩ : ∃ t u, v = .iface t u := by
      cases c with
      | nil => exact absurd rfl hc
      | cons k r => exact h.form1
    have h85 := @run_callFunc_extern Tryd.prog 85 _ (fun args => ReflectliteValue.unpack (args.getD 0 (.tuple #[]))) Tryd.func85 (by kernel_rfl) (by kernel_rfl) (by kernel_rfl) (by kernel_rfl)
    have h86 := @run_callFunc_extern Tryd.prog 86 _ (ReflectliteValue.methodAny (ReflectliteValue.valueError "reflectlite.Value.Type" 0) (fun t _ _ _ => ReflectliteType.toType t)) Tryd.func86 (by kernel_rfl) (by kernel_rfl) (by kernel_rfl) (by kernel_rfl)
    have h87 := @run_callFunc_extern Tryd.prog 87 _ (ReflectliteValue.method (ReflectliteValue.valueError "reflectlite.Value.IsNil" 0) ReflectliteValue.isNil) Tryd.func87 (by kernel_rfl) (by kernel_rfl) (by kernel_rfl) (by kernel_rfl)
    have h105 := @run_callFunc_extern Tryd.prog 105 _ (ReflectliteType.abiMethod fun t => do pure (.int .u8 (← Rtype.kind t))) Tryd.func105 (by kernel_rfl) (by kernel_rfl) (by kernel_rfl) (by kernel_rfl)
    have h116 := @run_callFunc_extern Tryd.prog 116 _ (ReflectliteType.method ReflectliteType.elem) Tryd.func116 (by kernel_rfl) (by kernel_rfl) (by kernel_rfl) (by kernel_rfl)
    have h117 := @run_callFunc_extern Tryd.prog 117 _ (ReflectliteType.relation "Implements" ReflectliteType.implements_) Tryd.func117 (by kernel_rfl) (by kernel_rfl) (by kernel_rfl) (by kernel_rfl)
    have f1 := valueOf129 ⟨bt, 0, none⟩ W
    have f2 := type129
    have mK := methodKind
    have mE := methodElem
    have mI := methodImplements
    have k1 := kind129
    have k2 := kind84
    have e1 := elem129
    have i1 := implements84
    have hb1 : Below W.heap.size W ((W.alloc (.cells #[.pointer (some ⟨bt, 0, none⟩)] 129)).alloc (.cells #[.pointer (some ⟨1, 129, none⟩), .pointer (some ⟨W.heap.size, 0, none⟩), .int .u64 150] 135)) :=
      ((Below.refl _ _).alloc (Nat.le_refl _) _).alloc (by simp) _
    have n1 := isNil129 ⟨W.heap.size, 0, none⟩ ⟨bt, 0, none⟩ ((W.alloc (.cells #[.pointer (some ⟨bt, 0, none⟩)] 129)).alloc (.cells #[.pointer (some ⟨1, 129, none⟩), .pointer (some ⟨W.heap.size, 0, none⟩), .int .u64 150] 135)) (by simp)
    have g1 : ((W.alloc (.cells #[.pointer (some ⟨bt, 0, none⟩)] 129)).alloc (.cells #[.pointer (some ⟨1, 129, none⟩), .pointer (some ⟨W.heap.size, 0, none⟩), .int .u64 150] 135)).cell? ⟨0, 0, none⟩ = some (.iface 120 (.agg #[.pointer (some ⟨1, 25, none⟩)])) :=
      hG.below (hW.trans (hb1.mono hW.size))
    have HA := Lib.hid (as_num (ba := W.heap.size) h hc (hW.trans (hb1.mono hW.size)) (block_alloc (heap_alloc_new W _)) (block_alloc (block_alloc hbt)))
    have HB1 := Lib.hid hb1
    clear hb1 h hW hbt hG hc
    go_enter Tryd.func81, Tryd.ntmps81
    go_wp2_with (go_at_call 88; refine (HA.out).mono ?_; rintro e w1 hp; have HP := Lib.hid hp; obtain ⟨b, rfl⟩ := hp.ends; clear hp)
    go_ret
    exact AsPost.after HB1.out HP.out

set_option maxRecDepth 100000 in
set_option maxHeartbeats 1000000 in
theorem errAs_plc {w W : World} {c : List Lk} {v old : Value} {bt : Nat} (hG : Glob w) (h : ErrIs w c v) (hW : Below w.heap.size w W) (hbt : W.heap[bt]? = some (.cells #[old] 87 (0, 0))) :
    Calls Tryd.prog 81 #[v, .iface 130 (.pointer (some ⟨bt, 0, none⟩))] W (AsPost Lk.isPlc c w W bt 87 old) := by
  by_cases hc : c = []
  · subst hc
    obtain rfl : v = .nilIface := h
    have HBT := Lib.hid hbt
    clear hbt
    go_enter Tryd.func81, Tryd.ntmps81
    go_wp2
    go_ret
    exact ⟨Only.of_below (Below.refl _ _), rfl, HBT.out⟩
  · obtain ⟨vt, vu, rfl⟩ : ∃ t u, v = .iface t u := by
      cases c with
      | nil => exact absurd rfl hc
      | cons k r => exact h.form1
    have h85 := @run_callFunc_extern Tryd.prog 85 _ (fun args => ReflectliteValue.unpack (args.getD 0 (.tuple #[]))) Tryd.func85 (by kernel_rfl) (by kernel_rfl) (by kernel_rfl) (by kernel_rfl)
    have h86 := @run_callFunc_extern Tryd.prog 86 _ (ReflectliteValue.methodAny (ReflectliteValue.valueError "reflectlite.Value.Type" 0) (fun t _ _ _ => ReflectliteType.toType t)) Tryd.func86 (by kernel_rfl) (by kernel_rfl) (by kernel_rfl) (by kernel_rfl)
    have h87 := @run_callFunc_extern Tryd.prog 87 _ (ReflectliteValue.method (ReflectliteValue.valueError "reflectlite.Value.IsNil" 0) ReflectliteValue.isNil) Tryd.func87 (by kernel_rfl) (by kernel_rfl) (by kernel_rfl) (by kernel_rfl)
    have h105 := @run_callFunc_extern Tryd.prog 105 _ (ReflectliteType.abiMethod fun t => do pure (.int .u8 (← Rtype.kind t))) Tryd.func105 (by kernel_rfl) (by kernel_rfl) (by kernel_rfl) (by kernel_rfl)
    have h116 := @run_callFunc_extern Tryd.prog 116 _ (ReflectliteType.method ReflectliteType.elem) Tryd.func116 (by kernel_rfl) (by kernel_rfl) (by kernel_rfl) (by kernel_rfl)
    have h117 := @run_callFunc_extern Tryd.prog 117 _ (ReflectliteType.relation "Implements" ReflectliteType.implements_) Tryd.func117 (by kernel_rfl) (by kernel_rfl) (by kernel_rfl) (by kernel_rfl)
    have f1 := valueOf130 ⟨bt, 0, none⟩ W
    have f2 := type130
    have mK := methodKind
    have mE := methodElem
    have mI := methodImplements
    have k1 := kind130
    have k2 := kind87
    have e1 := elem130
    have i1 := implements87
    have hb1 : Below W.heap.size W ((W.alloc (.cells #[.pointer (some ⟨bt, 0, none⟩)] 130)).alloc (.cells #[.pointer (some ⟨1, 130, none⟩), .pointer (some ⟨W.heap.size, 0, none⟩), .int .u64 150] 135)) :=
      ((Below.refl _ _).alloc (Nat.le_refl _) _).alloc (by simp) _
    have n1 := isNil130 ⟨W.heap.size, 0, none⟩ ⟨bt, 0, none⟩ ((W.alloc (.cells #[.pointer (some ⟨bt, 0, none⟩)] 130)).alloc (.cells #[.pointer (some ⟨1, 130, none⟩), .pointer (some ⟨W.heap.size, 0, none⟩), .int .u64 150] 135)) (by simp)
    have g1 : ((W.alloc (.cells #[.pointer (some ⟨bt, 0, none⟩)] 130)).alloc (.cells #[.pointer (some ⟨1, 130, none⟩), .pointer (some ⟨W.heap.size, 0, none⟩), .int .u64 150] 135)).cell? ⟨0, 0, none⟩ = some (.iface 120 (.agg #[.pointer (some ⟨1, 25, none⟩)])) :=
      hG.below (hW.trans (hb1.mono hW.size))
    have HA := Lib.hid (as_plc (ba := W.heap.size) h hc (hW.trans (hb1.mono hW.size)) (block_alloc (heap_alloc_new W _)) (block_alloc (block_alloc hbt)))
    have HB1 := Lib.hid hb1
    clear hb1 h hW hbt hG hc
    go_enter Tryd.func81, Tryd.ntmps81
    go_wp2_with (go_at_call 88; refine (HA.out).mono ?_; rintro e w1 hp; have HP := Lib.hid hp; obtain ⟨b, rfl⟩ := hp.ends; clear hp)
    go_ret
    exact AsPost.after HB1.out HP.out

set_option maxRecDepth 100000 in
set_option maxHeartbeats 1000000 in
theorem errAs_nam {w W : World} {c : List Lk} {v old : Value} {bt : Nat} (hG : Glob w) (h : ErrIs w c v) (hW : Below w.heap.size w W) (hbt : W.heap[bt]? = some (.cells #[old] 94 (0, 0))) :
    Calls Tryd.prog 81 #[v, .iface 118 (.pointer (some ⟨bt, 0, none⟩))] W (AsPost Lk.isNam c w W bt 94 old) := by
  by_cases hc : c = []
  · subst hc
    obtain rfl : v = .nilIface := h
    have HBT := Lib.hid hbt
    clear hbt
    go_enter Tryd.func81, Tryd.ntmps81
    go_wp2
    go_ret
    exact ⟨Only.of_below (Below.refl _ _), rfl, HBT.out⟩
  · obtain ⟨vt, vu, rfl⟩ : ∃ t u, v = .iface t u := by
      cases c with
      | nil => exact absurd rfl hc
      | cons k r => exact h.form1
    have h85 := @run_callFunc_extern Tryd.prog 85 _ (fun args => ReflectliteValue.unpack (args.getD 0 (.tuple #[]))) Tryd.func85 (by kernel_rfl) (by kernel_rfl) (by kernel_rfl) (by kernel_rfl)
    have h86 := @run_callFunc_extern Tryd.prog 86 _ (ReflectliteValue.methodAny (ReflectliteValue.valueError "reflectlite.Value.Type" 0) (fun t _ _ _ => ReflectliteType.toType t)) Tryd.func86 (by kernel_rfl) (by kernel_rfl) (by kernel_rfl) (by kernel_rfl)
    have h87 := @run_callFunc_extern Tryd.prog 87 _ (ReflectliteValue.method (ReflectliteValue.valueError "reflectlite.Value.IsNil" 0) ReflectliteValue.isNil) Tryd.func87 (by kernel_rfl) (by kernel_rfl) (by kernel_rfl) (by kernel_rfl)
    have h105 := @run_callFunc_extern Tryd.prog 105 _ (ReflectliteType.abiMethod fun t => do pure (.int .u8 (← Rtype.kind t))) Tryd.func105 (by kernel_rfl) (by kernel_rfl) (by kernel_rfl) (by kernel_rfl)
    have h116 := @run_callFunc_extern Tryd.prog 116 _ (ReflectliteType.method ReflectliteType.elem) Tryd.func116 (by kernel_rfl) (by kernel_rfl) (by kernel_rfl) (by kernel_rfl)
    have h117 := @run_callFunc_extern Tryd.prog 117 _ (ReflectliteType.relation "Implements" ReflectliteType.implements_) Tryd.func117 (by kernel_rfl) (by kernel_rfl) (by kernel_rfl) (by kernel_rfl)
    have f1 := valueOf118 ⟨bt, 0, none⟩ W
    have f2 := type118
    have mK := methodKind
    have mE := methodElem
    have mI := methodImplements
    have k1 := kind118
    have k2 := kind94
    have e1 := elem118
    have i1 := implements94
    have hb1 : Below W.heap.size W ((W.alloc (.cells #[.pointer (some ⟨bt, 0, none⟩)] 118)).alloc (.cells #[.pointer (some ⟨1, 118, none⟩), .pointer (some ⟨W.heap.size, 0, none⟩), .int .u64 150] 135)) :=
      ((Below.refl _ _).alloc (Nat.le_refl _) _).alloc (by simp) _
    have n1 := isNil118 ⟨W.heap.size, 0, none⟩ ⟨bt, 0, none⟩ ((W.alloc (.cells #[.pointer (some ⟨bt, 0, none⟩)] 118)).alloc (.cells #[.pointer (some ⟨1, 118, none⟩), .pointer (some ⟨W.heap.size, 0, none⟩), .int .u64 150] 135)) (by simp)
    have g1 : ((W.alloc (.cells #[.pointer (some ⟨bt, 0, none⟩)] 118)).alloc (.cells #[.pointer (some ⟨1, 118, none⟩), .pointer (some ⟨W.heap.size, 0, none⟩), .int .u64 150] 135)).cell? ⟨0, 0, none⟩ = some (.iface 120 (.agg #[.pointer (some ⟨1, 25, none⟩)])) :=
      hG.below (hW.trans (hb1.mono hW.size))
    have HA := Lib.hid (as_nam (ba := W.heap.size) h hc (hW.trans (hb1.mono hW.size)) (block_alloc (heap_alloc_new W _)) (block_alloc (block_alloc hbt)))
    have HB1 := Lib.hid hb1
    clear hb1 h hW hbt hG hc
    go_enter Tryd.func81, Tryd.ntmps81
    go_wp2_with (go_at_call 88; refine (HA.out).mono ?_; rintro e w1 hp; have HP := Lib.hid hp; obtain ⟨b, rfl⟩ := hp.ends; clear hp)
    go_ret
    exact AsPost.after HB1.out HP.out

set_option maxRecDepth 100000 in
set_option maxHeartbeats 1000000 in
theorem errAs_bnd {w W : World} {c : List Lk} {v old : Value} {bt : Nat} (hG : Glob w) (h : ErrIs w c v) (hW : Below w.heap.size w W) (hbt : W.heap[bt]? = some (.cells #[old] 76 (0, 0))) :
    Calls Tryd.prog 81 #[v, .iface 128 (.pointer (some ⟨bt, 0, none⟩))] W (AsPost Lk.isBnd c w W bt 76 old) := by
  by_cases hc : c = []
  · subst hc
    obtain rfl : v = .nilIface := h
    have HBT := Lib.hid hbt
    clear hbt
    go_enter Tryd.func81, Tryd.ntmps81
    go_wp2
    go_ret
    exact ⟨Only.of_below (Below.refl _ _), rfl, HBT.out⟩
  · obtain ⟨vt, vu, rfl⟩ : ∃ t u, v = .iface t u := by
      cases c with
      | nil => exact absurd rfl hc
      | cons k r => exact h.form1
    have h85 := @run_callFunc_extern Tryd.prog 85 _ (fun args => ReflectliteValue.unpack (args.getD 0 (.tuple #[]))) Tryd.func85 (by kernel_rfl) (by kernel_rfl) (by kernel_rfl) (by kernel_rfl)
    have h86 := @run_callFunc_extern Tryd.prog 86 _ (ReflectliteValue.methodAny (ReflectliteValue.valueError "reflectlite.Value.Type" 0) (fun t _ _ _ => ReflectliteType.toType t)) Tryd.func86 (by kernel_rfl) (by kernel_rfl) (by kernel_rfl) (by kernel_rfl)
    have h87 := @run_callFunc_extern Tryd.prog 87 _ (ReflectliteValue.method (ReflectliteValue.valueError "reflectlite.Value.IsNil" 0) ReflectliteValue.isNil) Tryd.func87 (by kernel_rfl) (by kernel_rfl) (by kernel_rfl) (by kernel_rfl)
    have h105 := @run_callFunc_extern Tryd.prog 105 _ (ReflectliteType.abiMethod fun t => do pure (.int .u8 (← Rtype.kind t))) Tryd.func105 (by kernel_rfl) (by kernel_rfl) (by kernel_rfl) (by kernel_rfl)
    have h116 := @run_callFunc_extern Tryd.prog 116 _ (ReflectliteType.method ReflectliteType.elem) Tryd.func116 (by kernel_rfl) (by kernel_rfl) (by kernel_rfl) (by kernel_rfl)
    have h117 := @run_callFunc_extern Tryd.prog 117 _ (ReflectliteType.relation "Implements" ReflectliteType.implements_) Tryd.func117 (by kernel_rfl) (by kernel_rfl) (by kernel_rfl) (by kernel_rfl)
    have f1 := valueOf128 ⟨bt, 0, none⟩ W
    have f2 := type128
    have mK := methodKind
    have mE := methodElem
    have mI := methodImplements
    have k1 := kind128
    have k2 := kind76
    have e1 := elem128
    have i1 := implements76
    have hb1 : Below W.heap.size W ((W.alloc (.cells #[.pointer (some ⟨bt, 0, none⟩)] 128)).alloc (.cells #[.pointer (some ⟨1, 128, none⟩), .pointer (some ⟨W.heap.size, 0, none⟩), .int .u64 150] 135)) :=
      ((Below.refl _ _).alloc (Nat.le_refl _) _).alloc (by simp) _
    have n1 := isNil128 ⟨W.heap.size, 0, none⟩ ⟨bt, 0, none⟩ ((W.alloc (.cells #[.pointer (some ⟨bt, 0, none⟩)] 128)).alloc (.cells #[.pointer (some ⟨1, 128, none⟩), .pointer (some ⟨W.heap.size, 0, none⟩), .int .u64 150] 135)) (by simp)
    have g1 : ((W.alloc (.cells #[.pointer (some ⟨bt, 0, none⟩)] 128)).alloc (.cells #[.pointer (some ⟨1, 128, none⟩), .pointer (some ⟨W.heap.size, 0, none⟩), .int .u64 150] 135)).cell? ⟨0, 0, none⟩ = some (.iface 120 (.agg #[.pointer (some ⟨1, 25, none⟩)])) :=
      hG.below (hW.trans (hb1.mono hW.size))
    have HA := Lib.hid (as_bnd (ba := W.heap.size) h hc (hW.trans (hb1.mono hW.size)) (block_alloc (heap_alloc_new W _)) (block_alloc (block_alloc hbt)))
    have HB1 := Lib.hid hb1
    clear hb1 h hW hbt hG hc
    go_enter Tryd.func81, Tryd.ntmps81
    go_wp2_with (go_at_call 88; refine (HA.out).mono ?_; rintro e w1 hp; have HP := Lib.hid hp; obtain ⟨b, rfl⟩ := hp.ends; clear hp)
    go_ret
    exact AsPost.after HB1.out HP.out
end Go.Proofs.YtakdhhapckcnaaaDoor
