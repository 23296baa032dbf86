/- The numbers of sort.Search and strings.Compare at this seat. -/
import Derived.Shelf.SlSorted.Search
import Derived.Ground.SlsoProg
import Derived.Shelf.Small.Strs
import Derived.Ground.NamesProg
import Derived.Test.YtkkembbeejlomaaGreatDoorProg
namespace Go.Proofs.YtkkembbeejlomaaGreatDoor
open Go.Shelf
def Tryz.searchA_ren : Go.Shelf.Ren := ⟨fun | 16 => 68 | n => n, fun | 3 => 3 | 35 => 118 | 4 => 4 | 38 => 127 | n => n, fun | n => n⟩
theorem Tryz.searchA : Go.Proofs.SlLaysO.n16 Tryz.prog Tryz.searchA_ren := {
  mixed := by kernel_rfl
  f16 := Tryz.func68.trans (congrArg some (by kernel_rfl))
  t3 := Tryz.underlying3
  a3 := Tryz.isAgg3
  z3 := Tryz.sizeOf3
  v3 := Tryz.zeroValue3
  t4 := Tryz.underlying4
  a4 := Tryz.isAgg4
  z4 := Tryz.sizeOf4
  v4 := Tryz.zeroValue4
  t35 := Tryz.underlying118
  a35 := Tryz.isAgg118
  z35 := Tryz.sizeOf118
  v35 := Tryz.zeroValue118
  t38 := Tryz.underlying127
  a38 := Tryz.isAgg127
  z38 := Tryz.sizeOf127
  v38 := Tryz.zeroValue127 }
def Tryz.compareA_ren : Go.Shelf.Ren := ⟨fun | 106 => 72 | 213 => 92 | 265 => 103 | n => n, fun | 9 => 9 | 3 => 3 | n => n, fun | n => n⟩
theorem Tryz.compareA : Go.Proofs.Lays.n106 Tryz.prog Tryz.compareA_ren := {
  mixed := by kernel_rfl
  f106 := Tryz.func72.trans (congrArg some (by kernel_rfl))
  f213 := Tryz.func92.trans (congrArg some (by kernel_rfl))
  f265 := Tryz.func103.trans (congrArg some (by kernel_rfl))
  t3 := Tryz.underlying3
  a3 := Tryz.isAgg3
  z3 := Tryz.sizeOf3
  v3 := Tryz.zeroValue3
  t9 := Tryz.underlying9
  a9 := Tryz.isAgg9
  z9 := Tryz.sizeOf9
  v9 := Tryz.zeroValue9 }
end Go.Proofs.YtkkembbeejlomaaGreatDoor
