/- Messages in a row that was given. -/
import Derived.Test.YtfddlhcdlgdofaaGreatDoorZMegA
set_option linter.unusedSimpArgs false
set_option linter.unusedVariables false
set_option linter.unnecessarySimpa false
namespace Go.Proofs.YtfddlhcdlgdofaaGreatDoor
open Go.RowKit Go.Shelf

/-- A message's eleven cells from an address on. -/
def M11 (W : World) (p : Addr) (m : MsgV) (tA : Option Addr) (tc : Nat) (oA : Option Addr) (oc : Nat) : Prop := W.cell? p = some (.int .i64 m.kd) ∧ W.cell? ⟨p.block, p.off + 1, none⟩ = some (.int .i64 m.fr) ∧ W.cell? ⟨p.block, p.off + 2, none⟩ = some (.int .i64 m.tt) ∧ W.cell? ⟨p.block, p.off + 3, none⟩ = some (.int .i64 m.g) ∧ W.cell? ⟨p.block, p.off + 4, none⟩ = some (.int .i64 m.nd) ∧ W.cell? ⟨p.block, p.off + 5, none⟩ = some (.int .i64 m.tr) ∧ W.cell? ⟨p.block, p.off + 6, none⟩ = some (.int .i64 m.lw) ∧ W.cell? ⟨p.block, p.off + 7, none⟩ = some (.int .i64 m.co) ∧ W.cell? ⟨p.block, p.off + 8, none⟩ = some (.int .i64 m.ti) ∧ W.cell? ⟨p.block, p.off + 9, none⟩ = some (.slice tA m.tl.length tc) ∧ W.cell? ⟨p.block, p.off + 10, none⟩ = some (.slice oA m.os.length oc)
theorem M11.below {w w' : World} {p : Addr} {m : MsgV} {tA oA : Option Addr} {tc oc : Nat} (h : M11 w p m tA tc oA oc) (hp : p.block < w.heap.size) (hb : Below w.heap.size w w') : M11 w' p m tA tc oA oc := by
  unfold M11 at h ⊢
  obtain ⟨a0, a1, a2, a3, a4, a5, a6, a7, a8, a9, a10⟩ := h
  exact ⟨(hb.cell hp).trans a0, (hb.cell (p := ⟨p.block, p.off + 1, none⟩) hp).trans a1, (hb.cell (p := ⟨p.block, p.off + 2, none⟩) hp).trans a2, (hb.cell (p := ⟨p.block, p.off + 3, none⟩) hp).trans a3, (hb.cell (p := ⟨p.block, p.off + 4, none⟩) hp).trans a4, (hb.cell (p := ⟨p.block, p.off + 5, none⟩) hp).trans a5, (hb.cell (p := ⟨p.block, p.off + 6, none⟩) hp).trans a6, (hb.cell (p := ⟨p.block, p.off + 7, none⟩) hp).trans a7, (hb.cell (p := ⟨p.block, p.off + 8, none⟩) hp).trans a8, (hb.cell (p := ⟨p.block, p.off + 9, none⟩) hp).trans a9, (hb.cell (p := ⟨p.block, p.off + 10, none⟩) hp).trans a10⟩
/-- A slice of messages that was given. -/
def MsgsAt (w : World) (v : Value) (l : List MsgV) : Prop := ∃ A cap, v = .slice A l.length cap ∧ l.length ≤ cap ∧ cap ≤ maxLen ∧ ∀ (i : Nat) (m : MsgV), l[i]? = some m → ∃ (a : Addr) (tA : Option Addr) (tc : Nat) (oA : Option Addr) (oc : Nat), A = some a ∧ a.block < w.heap.size ∧ M11 w (a.add (i * 11)) m tA tc oA oc ∧ NumsAt w (.slice tA m.tl.length tc) m.tl ∧ OpsAt w (.slice oA m.os.length oc) m.os
end Go.Proofs.YtfddlhcdlgdofaaGreatDoor
