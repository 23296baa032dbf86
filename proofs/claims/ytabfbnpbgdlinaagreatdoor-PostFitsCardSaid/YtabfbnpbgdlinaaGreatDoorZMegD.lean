/- The law on answers. (genmegd.py wrote it.) -/
import Derived.Test.YtabfbnpbgdlinaaGreatDoorZMegA
import Derived.Test.YtabfbnpbgdlinaaGreatDoorZMefD
set_option linter.unusedSimpArgs false
set_option linter.unusedVariables false
set_option linter.unnecessarySimpa false
namespace Go.Proofs.YtabfbnpbgdlinaaGreatDoor
open Go.RowKit Go.Shelf

/-- The law's two boxes, with messages that were cut. -/
def Boxes (w W : World) (p q : MsgV) : Prop := Below w.heap.size w W ∧ ∃ tA tc oA oc tB td oB od, W.heap[w.heap.size]? = some (.cells (cellM p tA tc oA oc) 37 (0, 0)) ∧ W.heap[w.heap.size + 1]? = some (.cells (cellM q tB td oB od) 37 (0, 0)) ∧ MsgIs W (.agg (cellM p tA tc oA oc)) p ∧ MsgIs W (.agg (cellM q tB td oB od)) q
/-- What stands behind both cuts: the boxes are stored. -/
theorem boxes_of {w w3 w4 W : World} {p q : MsgV} {tA tB oA oB : Option Addr} {tc td oc od : Nat} {B1 B2 : Nat}
    (hb : Below w.heap.size w w4) (hB1 : w.heap.size + 2 ≤ B1) (hB2 : w.heap.size + 2 ≤ B2)
    (n1 : NumsAt w (.slice tA p.tl.length tc) p.tl) (o1 : RowN w3 B1 4 (.slice oA p.os.length oc) p.os.length (opC p.os)) (h34 : Below w3.heap.size w3 w4) (n2 : NumsAt w (.slice tB q.tl.length td) q.tl) (o2 : RowN w4 B2 4 (.slice oB q.os.length od) q.os.length (opC q.os)) (k1 : KeysIn p.os) (k2 : KeysIn q.os)
    (ht : Touch (fun k => k = w.heap.size ∨ k = w.heap.size + 1) w4 W) (h3 : W.heap[w.heap.size]? = some (.cells (cellM p tA tc oA oc) 37 (0, 0))) (h5 : W.heap[w.heap.size + 1]? = some (.cells (cellM q tB td oB od) 37 (0, 0))) : Boxes w W p q := by
  have hW := hb.trans (ht.below (fun i e => by omega) hb.size)
  exact ⟨hW, tA, tc, oA, oc, tB, td, oB, od, h3, h5, ⟨tA, tc, oA, oc, rfl, n1.below hW, ((o1.1.below h34).touch ht (fun b e hb => by have := (o1.2.1 b e).1; omega)).ops rfl, k1⟩, ⟨tB, td, oB, od, rfl, n2.below hW, (o2.1.touch ht (fun b e hb => by have := (o2.2.1 b e).1; omega)).ops rfl, k2⟩⟩
theorem KeysIn.cut (m : MsgV) : KeysIn (cutM m).os := fun o ho => by have := cutO_keys m.os o ho; omega
end Go.Proofs.YtabfbnpbgdlinaaGreatDoor
