/-
  No cell of these rows narrows 'for every input' (looked for: loops, veiled, ifaces, maps, wideKeys, modest, calm, conditions, laid).
  DERIVED. THE GIVEN ROWS OF THIS SEAT. 3 by the template 'for every input the law returns true; each argument reads behind the call as it read before'; 0 by the template 'total and deterministic' (their statements: YtlbhpeeggbfcpaaTotals.lean).
  GIVEN WITH THE SEED: the statements are not yours to turn. If you find one false, say at which input.
  Laid BY PROGRAM, IN A SANDBOX (cutbox-rows.mjs): the forced cells as the released guide's own fill.sh prints them over the translation e464a373bd6814e5… (all of the seat's roots in one cut). By AI agents, Wed Nov 11 2026. No macro, syntax, notation, axiom, sorry.
-/
import Derived.Test.YtlbhpeeggbfcpaaChecked
import GoSem.Claim
import GoSem.ClaimJoined
import GoSem.ClaimMapViews
import Derived.JoinedTies
import Derived.KernelRfl
namespace Go.Proofs.Ytlbhpeeggbfcpaa
/- THE CELL 'sum', in the pinned program and in every row, IS THE sha256 OF THE DUMP (.gsa) THAT YtlbhpeeggbfcpaaProg.lean LOADS. Nothing in Lean hashes anything: it is a label: what it is worth is what the hold of that sum in a sandbox is worth. -/
noncomputable def Try.pinned : Pinned := { name := "ytlbhpeeggbfcpaa", sum := "e464a373bd6814e52f119ab744a37b56e59402c81466eb2b68e3b7bf0e514e2f", checked := Try.checked }
namespace Rows
def none {H : Type} : Left H := { results := [], args := [] }

/-- 'byroadlaw27.OrderMays': WHATEVER THE INPUT: true; the input reads as it did. -/
def orderMaysSpec : ChangeSpec := { name := "orderMays", fn := fun _ => fun
  | [d1, d2, d3] => { results := [.lit (.bool true)], args := [d1, d2, d3] }
  | _ => none }
def orderMaysRow : OpenClaim := { program := "ytlbhpeeggbfcpaa", sum := "e464a373bd6814e52f119ab744a37b56e59402c81466eb2b68e3b7bf0e514e2f", func := "byroad/byroadlaw27.OrderMays", spec := "orderMays", unfollowed := true, recurses := true, apart := false }
def OrderMaysSaid : Prop := orderMaysRow.holds Try.pinned (OpenSpec.ofChange orderMaysSpec)

/-- ITS FALSE NEIGHBOUR: 'it returns false'. Refute it at one input. -/
def orderMaysWrong : ChangeSpec := { name := "orderMays", fn := fun _ => fun
  | [d1, d2, d3] => { results := [.lit (.bool false)], args := [d1, d2, d3] }
  | _ => none }
def OrderMaysWrongFalsely : Prop := orderMaysRow.holds Try.pinned (OpenSpec.ofChange orderMaysWrong)

/-- 'byroadlaw27.OrderCertifies': WHATEVER THE INPUT: true; the input reads as it did. -/
def orderCertifiesSpec : ChangeSpec := { name := "orderCertifies", fn := fun _ => fun
  | [d] => { results := [.lit (.bool true)], args := [d] }
  | _ => none }
def orderCertifiesRow : OpenClaim := { program := "ytlbhpeeggbfcpaa", sum := "e464a373bd6814e52f119ab744a37b56e59402c81466eb2b68e3b7bf0e514e2f", func := "byroad/byroadlaw27.OrderCertifies", spec := "orderCertifies", unfollowed := true, recurses := true, apart := false }
def OrderCertifiesSaid : Prop := orderCertifiesRow.holds Try.pinned (OpenSpec.ofChange orderCertifiesSpec)

/-- ITS FALSE NEIGHBOUR: 'it returns false'. Refute it at one input. -/
def orderCertifiesWrong : ChangeSpec := { name := "orderCertifies", fn := fun _ => fun
  | [d] => { results := [.lit (.bool false)], args := [d] }
  | _ => none }
def OrderCertifiesWrongFalsely : Prop := orderCertifiesRow.holds Try.pinned (OpenSpec.ofChange orderCertifiesWrong)

/-- 'byroadlaw27.OrderRises': WHATEVER THE INPUT: true; the input reads as it did. -/
def orderRisesSpec : ChangeSpec := { name := "orderRises", fn := fun _ => fun
  | [d1, d2] => { results := [.lit (.bool true)], args := [d1, d2] }
  | _ => none }
def orderRisesRow : OpenClaim := { program := "ytlbhpeeggbfcpaa", sum := "e464a373bd6814e52f119ab744a37b56e59402c81466eb2b68e3b7bf0e514e2f", func := "byroad/byroadlaw27.OrderRises", spec := "orderRises", unfollowed := true, recurses := true, apart := false }
def OrderRisesSaid : Prop := orderRisesRow.holds Try.pinned (OpenSpec.ofChange orderRisesSpec)

/-- ITS FALSE NEIGHBOUR: 'it returns false'. Refute it at one input. -/
def orderRisesWrong : ChangeSpec := { name := "orderRises", fn := fun _ => fun
  | [d1, d2] => { results := [.lit (.bool false)], args := [d1, d2] }
  | _ => none }
def OrderRisesWrongFalsely : Prop := orderRisesRow.holds Try.pinned (OpenSpec.ofChange orderRisesWrong)

/- THE SECOND FORM. 'bulk': how many values and letters a reading holds, each counted each time it is reached (what is shared counts as often as it is met; a slice's spare places count too). A statement '..UptoSaid' is the law's where the arguments, and the package variables that the reading takes, are together of bulk at most 1048576: NARROWER than '..Said'. Prove '..Said' where nothing that the law and all that it calls make is longer than what came in: it says more and counts as full. Else prove '..UptoSaid'. A law counts once. -/
mutual
def uptoBulk {H : Type} : DataW H → Nat
  | .lit (.string bytes) => bytes.length + 1
  | .lit _ => 1
  | .nil => 1
  | .ptr d => uptoBulk d + 1
  | .slice elems spare => uptoBulkAll elems + uptoBulkAll spare + 1
  | .agg parts => uptoBulkAll parts + 1
  | .iface _ d => uptoBulk d + 1
  | .map entries => uptoBulkEntries entries + 1
  | .held _ => 1
def uptoBulkAll {H : Type} : List (DataW H) → Nat
  | [] => 0
  | d :: r => uptoBulk d + uptoBulkAll r
def uptoBulkEntries {H : Type} : List (Lit × DataW H) → Nat
  | [] => 0
  | x :: r => uptoBulkEntry x + uptoBulkEntries r
def uptoBulkEntry {H : Type} : Lit × DataW H → Nat
  | (.string bytes, d) => bytes.length + uptoBulk d + 1
  | (_, d) => uptoBulk d + 1
 end
def uptoSmall : (H : Type) → List (DataW H) → Bool := fun _ ds => decide (uptoBulkAll ds ≤ 1048576)
def OpenSpec.upto (s : _root_.Go.ChangeSpec) : _root_.Go.OpenSpec := { _root_.Go.OpenSpec.ofChange s with cond := some uptoSmall }

/-- 'byroadlaw27.OrderMays', WHERE WHAT IT READS IS OF BULK AT MOST 1048576: true; the input reads as it did. -/
def orderMaysUptoRow : OpenClaim := { program := "ytlbhpeeggbfcpaa", sum := "e464a373bd6814e52f119ab744a37b56e59402c81466eb2b68e3b7bf0e514e2f", func := "byroad/byroadlaw27.OrderMays", spec := "orderMays", unfollowed := true, recurses := true, apart := false, narrowed := true }
def OrderMaysUptoSaid : Prop := orderMaysUptoRow.holds Try.pinned (OpenSpec.upto orderMaysSpec)

/-- 'byroadlaw27.OrderCertifies', WHERE WHAT IT READS IS OF BULK AT MOST 1048576: true; the input reads as it did. -/
def orderCertifiesUptoRow : OpenClaim := { program := "ytlbhpeeggbfcpaa", sum := "e464a373bd6814e52f119ab744a37b56e59402c81466eb2b68e3b7bf0e514e2f", func := "byroad/byroadlaw27.OrderCertifies", spec := "orderCertifies", unfollowed := true, recurses := true, apart := false, narrowed := true }
def OrderCertifiesUptoSaid : Prop := orderCertifiesUptoRow.holds Try.pinned (OpenSpec.upto orderCertifiesSpec)

/-- 'byroadlaw27.OrderRises', WHERE WHAT IT READS IS OF BULK AT MOST 1048576: true; the input reads as it did. -/
def orderRisesUptoRow : OpenClaim := { program := "ytlbhpeeggbfcpaa", sum := "e464a373bd6814e52f119ab744a37b56e59402c81466eb2b68e3b7bf0e514e2f", func := "byroad/byroadlaw27.OrderRises", spec := "orderRises", unfollowed := true, recurses := true, apart := false, narrowed := true }
def OrderRisesUptoSaid : Prop := orderRisesUptoRow.holds Try.pinned (OpenSpec.upto orderRisesSpec)

end Rows
end Go.Proofs.Ytlbhpeeggbfcpaa
