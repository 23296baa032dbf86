/- The box of requests in memory. The box: a message with lists of its own; what may be asked. What may be asked of a box; a box that is made. The numbers of slices.Sorted, slices.Sort and maps.Keys at this seat. The box: Open. The box: Get. The box: when a request is due; it is sent. fault.First at every slice of errors. The box: a request is put into its map. The box: Put. The net: Send. The net: what is answered where there is no packet, or no net. -/
import Derived.Test.YtmbonngjkgcijaaGreatDoorZPosA
import Derived.Test.YtmbonngjkgcijaaGreatDoorZBasA
import Derived.Shelf.SlIterI.Nil
import Derived.Shelf.SortM.Plain
import Derived.Shelf.SortM.SortNone
import Derived.Ground.GgzProg
import Derived.Ground.SlgmProg
import Derived.Test.YtmbonngjkgcijaaGreatDoorProg
import Derived.Test.YtmbonngjkgcijaaGreatDoorZErrB
import Derived.Test.YtmbonngjkgcijaaGreatDoorZNetD
set_option linter.unusedSimpArgs false
set_option linter.unusedVariables false
set_option linter.unnecessarySimpa false
namespace Go.Proofs.YtmbonngjkgcijaaGreatDoor
open Go.RowKit Go.Shelf
open Go.Maps (Keyed)

/-- A request: its message, where it lies, and when it was sent. -/
structure Rq where
  m : MsgV
  tA : Option Addr
  tc : Nat
  oA : Option Addr
  oc : Nat
  sent : Bool
  last : Int
  rb : Nat
  born : Nat
def Rq.cells (e : Rq) : Array Value := #[.int .i64 e.m.kd, .int .i64 e.m.fr, .int .i64 e.m.tt, .int .i64 e.m.g, .int .i64 e.m.nd, .int .i64 e.m.tr, .int .i64 e.m.lw, .int .i64 e.m.co, .int .i64 e.m.ti, .slice e.tA e.m.tl.length e.tc, .slice e.oA e.m.os.length e.oc, .bool e.sent, .int .i64 e.last]
def Rq.me (e : Rq) : MapEntry := ⟨.int .i64 e.m.g, .pointer (some ⟨e.rb, 0, none⟩), e.born⟩
/-- A box: every so many ticks, its map, the requests, and the blocks R in which these lie. -/
structure BoxAt (w : World) (b mp : Nat) (ev : Int) (L : List Rq) (c : Nat) (R : Nat → Prop) : Prop where
  head : w.heap[b]? = some (.cells #[.int .i64 ev, .map (some mp)] 143 (0, 0))
  map : MapIs Tryz.prog 3 w mp (L.map Rq.me) c
  req : ∀ e ∈ L, w.heap[e.rb]? = some (.cells e.cells 155 (0, 0))
  tl : ∀ e ∈ L, NumsAt w (.slice e.tA e.m.tl.length e.tc) e.m.tl
  os : ∀ e ∈ L, OpsAt w (.slice e.oA e.m.os.length e.oc) e.m.os
  keys : ∀ e ∈ L, KeysIn e.m.os
  may : ∀ e ∈ L, mayM e.m = true
  farT : ∀ e ∈ L, e.m.tl ≠ [] → ∀ a, e.tA = some a → ¬ R a.block ∧ a.block ≠ mp
  farO : ∀ e ∈ L, e.m.os ≠ [] → ∀ a, e.oA = some a → ¬ R a.block ∧ a.block ≠ mp
  inR : ∀ e ∈ L, R e.rb
  ltR : ∀ k, R k → k < w.heap.size
  offR : ¬ R mp ∧ ¬ R b ∧ b ≠ mp
  one : ∀ (i j : Nat) (x y : Rq), L[i]? = some x → L[j]? = some y → x.rb = y.rb → i = j
section
variable {w w' : World} {b mp : Nat} {ev : Int} {L : List Rq} {c : Nat} {R : Nat → Prop}
theorem BoxAt.keep (h : BoxAt w b mp ev L c R) {S : Nat → Prop} (ht : Touch S w w') (hb : ¬ S b) (hm : ¬ S mp) (hR : ∀ k, R k → ¬ S k) (hT : ∀ e ∈ L, e.m.tl ≠ [] → ∀ a, e.tA = some a → ¬ S a.block) (hO : ∀ e ∈ L, e.m.os ≠ [] → ∀ a, e.oA = some a → ¬ S a.block) : BoxAt w' b mp ev L c R where
  head := (ht.block b (heap_lt h.head) hb).trans h.head
  map := h.map.keep (ht.block mp h.map.lt hm)
  req := fun e he => (ht.block _ (heap_lt (h.req e he)) (hR _ (h.inR e he))).trans (h.req e he)
  tl := fun e he => (h.tl e he).touch ht (hT e he)
  os := fun e he => (h.os e he).touch ht (hO e he)
  keys := h.keys
  may := h.may
  farT := h.farT
  farO := h.farO
  inR := h.inR
  ltR := fun k hk => Nat.lt_of_lt_of_le (h.ltR k hk) ht.size
  offR := h.offR
  one := h.one
theorem BoxAt.below (h : BoxAt w b mp ev L c R) (hb : Below w.heap.size w w') : BoxAt w' b mp ev L c R :=
  h.keep (S := fun _ => False) (.of_below hb) id id (fun _ _ => id) (fun _ _ _ _ _ => id) (fun _ _ _ _ _ => id)
theorem mayM_g {m : MsgV} (h : mayM m = true) : 0 ≤ m.g ∧ m.g ≤ 1048576 := (mayM_fits h).g
theorem keyedP : Keyed Tryz.prog 3 := Go.Maps.int_keyed Tryz.underlying3
theorem key_g {n : Int} (h0 : -9223372036854775808 ≤ n) (h1 : n ≤ 9223372036854775807) : keyOf Tryz.prog 3 (.int .i64 n) = some (.int .i64 n) := by
  refine Go.Maps.keyOf_int_mk Tryz.underlying3 ?_
  have e1 : IntKind.i64.min = -9223372036854775808 := by decide
  have e2 : IntKind.i64.max = 9223372036854775807 := by decide
  simp [Lit.wf, e1, e2]
  omega
theorem rq_cases (L : List Rq) (n : Int) : (∃ (j : Nat) (e : Rq), L[j]? = some e ∧ e.m.g = n) ∨ ∀ e ∈ L, e.m.g ≠ n := by
  by_cases h : ∃ e ∈ L, e.m.g = n
  · obtain ⟨e, he, hn⟩ := h
    obtain ⟨j, hj⟩ := List.getElem?_of_mem he
    exact .inl ⟨j, e, hj, hn⟩
  · exact .inr fun e he hn => h ⟨e, he, hn⟩
theorem rme_at {j : Nat} {e : Rq} (h : L[j]? = some e) : (L.map Rq.me)[j]? = some e.me := by rw [List.getElem?_map, h]; rfl
theorem rme_miss {n : Int} (h : ∀ e ∈ L, e.m.g ≠ n) : ∀ e ∈ L.map Rq.me, e.key ≠ .int .i64 n := by
  intro x hx hk
  obtain ⟨e, he, rfl⟩ := List.mem_map.1 hx
  injection hk with _ hk
  exact h e he hk
end
/-! look-ups, at the operation -/
section
variable (w : World) {ops : Array Oper} {rest : List Oper} {o : Oper} {a : Act} {Q : Exit → Act → World → Prop} {b mp : Nat} {ev : Int} {L : List Rq} {c : Nat} {R : Nat → Prop}
end
/-! none, within -/
end Go.Proofs.YtmbonngjkgcijaaGreatDoor

namespace Go.Proofs.YtmbonngjkgcijaaGreatDoor
open Go.RowKit Go.Shelf

/-- A message with lists of its own, in blocks from B on. -/
def MsgOwn (w : World) (B : Nat) (v : Value) (m : MsgV) : Prop := ∃ tA tc oA oc, v = .agg (cellM m tA tc oA oc) ∧ NumsAt w (.slice tA m.tl.length tc) m.tl ∧ OpsAt w (.slice oA m.os.length oc) m.os ∧ (∀ a, tA = some a → B ≤ a.block ∧ a.block < w.heap.size) ∧ ∀ a, oA = some a → B ≤ a.block ∧ a.block < w.heap.size
theorem MsgOwn.below {w w' : World} {B : Nat} {v : Value} {m : MsgV} (h : MsgOwn w B v m) (hb : Below w.heap.size w w') : MsgOwn w' B v m := by
  obtain ⟨tA, tc, oA, oc, e, h1, h2, h3, h4⟩ := h
  exact ⟨tA, tc, oA, oc, e, h1.below hb, h2.below hb, fun a ha => ⟨(h3 a ha).1, Nat.lt_of_lt_of_le (h3 a ha).2 hb.size⟩, fun a ha => ⟨(h4 a ha).1, Nat.lt_of_lt_of_le (h4 a ha).2 hb.size⟩⟩
abbrev zeroC : Array Value := #[.int .i64 0, .int .i64 0, .int .i64 0, .int .i64 0, .int .i64 0, .int .i64 0, .int .i64 0, .int .i64 0, .int .i64 0, .slice none 0 0, .slice none 0 0]
end Go.Proofs.YtmbonngjkgcijaaGreatDoor

namespace Go.Proofs.YtmbonngjkgcijaaGreatDoor
open Go.RowKit Go.Shelf

end Go.Proofs.YtmbonngjkgcijaaGreatDoor

namespace Go.Proofs.YtmbonngjkgcijaaGreatDoor
open Go.Shelf
def Tryz.keysA_ren : Go.Shelf.Ren := ⟨fun | 7 => 86 | 10 => 120 | n => n, fun | 23 => 141 | 26 => 3 | 3 => 150 | 28 => 138 | 0 => 0 | 27 => 137 | 33 => 91 | 4 => 4 | n => n, fun | n => n⟩
def Tryz.keysB_ren : Go.Shelf.Ren := ⟨fun | 7 => 78 | 10 => 119 | n => n, fun | 23 => 97 | 26 => 3 | 3 => 135 | 28 => 138 | 0 => 0 | 27 => 137 | 33 => 91 | 4 => 4 | n => n, fun | n => n⟩
theorem Tryz.keysB : Go.Proofs.SlLaysZI.n7 Tryz.prog Tryz.keysB_ren := {
  mixed := by kernel_rfl
  f7 := ⟨Tryz.f78.name, by decide, Tryz.func78.trans (congrArg some (by kernel_rfl))⟩
  f10 := ⟨Tryz.f119.name, by decide, Tryz.func119.trans (congrArg some (by kernel_rfl))⟩
  t0 := Tryz.underlying0
  a0 := Tryz.isAgg0
  z0 := Tryz.sizeOf0
  v0 := Tryz.zeroValue0
  t4 := Tryz.underlying4
  a4 := Tryz.isAgg4
  z4 := Tryz.sizeOf4
  v4 := Tryz.zeroValue4
  t23 := Tryz.underlying97
  a23 := Tryz.isAgg97
  z23 := Tryz.sizeOf97
  v23 := Tryz.zeroValue97
  t26 := Tryz.underlying3
  a26 := Tryz.isAgg3
  z26 := Tryz.sizeOf3
  v26 := Tryz.zeroValue3
  t27 := Tryz.underlying137
  a27 := Tryz.isAgg137
  z27 := Tryz.sizeOf137
  v27 := Tryz.zeroValue137
  t28 := Tryz.underlying138
  a28 := Tryz.isAgg138
  z28 := Tryz.sizeOf138
  v28 := Tryz.zeroValue138
  t33 := Tryz.underlying91
  a33 := Tryz.isAgg91
  z33 := Tryz.sizeOf91
  v33 := Tryz.zeroValue91 }
def Tryz.sortedA_ren : Go.Shelf.Ren := ⟨fun | 6 => 77 | 8 => 117 | 9 => 118 | 11 => 155 | 13 => 157 | 12 => 156 | 23 => 180 | 24 => 166 | 14 => 171 | 15 => 172 | 16 => 173 | 17 => 174 | 18 => 175 | 19 => 176 | 20 => 177 | 21 => 178 | 22 => 179 | 25 => 187 | 26 => 188 | 27 => 189 | 28 => 190 | 29 => 191 | 30 => 192 | 31 => 198 | n => n, fun | 26 => 3 | 28 => 138 | 24 => 64 | 0 => 0 | 3 => 3 | 37 => 166 | 48 => 222 | 50 => 175 | 4 => 4 | 40 => 245 | 39 => 244 | 45 => 249 | 5 => 5 | 9 => 9 | 51 => 265 | 55 => 268 | 57 => 283 | 58 => 284 | 33 => 91 | n => n, fun | n => n⟩
theorem Tryz.sortedA : Go.Proofs.SlLaysZI.n6 Tryz.prog Tryz.sortedA_ren := {
  mixed := by kernel_rfl
  f6 := ⟨Tryz.f77.name, by decide, Tryz.func77.trans (congrArg some (by kernel_rfl))⟩
  f8 := ⟨Tryz.f117.name, by decide, Tryz.func117.trans (congrArg some (by kernel_rfl))⟩
  f11 := ⟨Tryz.f155.name, by decide, Tryz.func155.trans (congrArg some (by kernel_rfl))⟩
  t0 := Tryz.underlying0
  a0 := Tryz.isAgg0
  z0 := Tryz.sizeOf0
  v0 := Tryz.zeroValue0
  t24 := Tryz.underlying64
  a24 := Tryz.isAgg64
  z24 := Tryz.sizeOf64
  v24 := Tryz.zeroValue64
  t26 := Tryz.underlying3
  a26 := Tryz.isAgg3
  z26 := Tryz.sizeOf3
  v26 := Tryz.zeroValue3
  t28 := Tryz.underlying138
  a28 := Tryz.isAgg138
  z28 := Tryz.sizeOf138
  v28 := Tryz.zeroValue138
  i26 := by kernel_rfl }
def Tryz.sortA_ren : Go.Shelf.Ren := ⟨fun | 5 => 118 | 8 => 157 | 7 => 156 | 19 => 180 | 20 => 166 | 10 => 171 | 11 => 172 | 12 => 173 | 13 => 174 | 14 => 175 | 15 => 176 | 16 => 177 | 17 => 178 | 18 => 179 | 30 => 187 | 31 => 188 | 32 => 189 | 33 => 190 | 34 => 191 | 35 => 192 | 40 => 198 | n => n, fun | 23 => 64 | 25 => 3 | 3 => 3 | 32 => 166 | 22 => 64 | 0 => 0 | 44 => 222 | 46 => 175 | 4 => 4 | 36 => 245 | 35 => 244 | 41 => 249 | 5 => 5 | 9 => 9 | 53 => 265 | 57 => 268 | 63 => 283 | 64 => 284 | n => n, fun | n => n⟩
theorem Tryz.sortA : Go.Proofs.SlLaysM.n5 Tryz.prog Tryz.sortA_ren := {
  mixed := by kernel_rfl
  f5 := ⟨Tryz.f118.name, by decide, Tryz.func118.trans (congrArg some (by kernel_rfl))⟩
  f7 := ⟨Tryz.f156.name, by decide, Tryz.func156.trans (congrArg some (by kernel_rfl))⟩
  f8 := Tryz.func157.trans (congrArg some (by kernel_rfl))
  f10 := ⟨Tryz.f171.name, by decide, Tryz.func171.trans (congrArg some (by kernel_rfl))⟩
  f11 := ⟨Tryz.f172.name, by decide, Tryz.func172.trans (congrArg some (by kernel_rfl))⟩
  f12 := ⟨Tryz.f173.name, by decide, Tryz.func173.trans (congrArg some (by kernel_rfl))⟩
  f13 := ⟨Tryz.f174.name, by decide, Tryz.func174.trans (congrArg some (by kernel_rfl))⟩
  f14 := ⟨Tryz.f175.name, by decide, Tryz.func175.trans (congrArg some (by kernel_rfl))⟩
  f15 := ⟨Tryz.f176.name, by decide, Tryz.func176.trans (congrArg some (by kernel_rfl))⟩
  f16 := ⟨Tryz.f177.name, by decide, Tryz.func177.trans (congrArg some (by kernel_rfl))⟩
  f17 := ⟨Tryz.f178.name, by decide, Tryz.func178.trans (congrArg some (by kernel_rfl))⟩
  f18 := ⟨Tryz.f179.name, by decide, Tryz.func179.trans (congrArg some (by kernel_rfl))⟩
  f19 := Tryz.func180.trans (congrArg some (by kernel_rfl))
  f20 := Tryz.func166.trans (congrArg some (by kernel_rfl))
  f30 := ⟨Tryz.f187.name, by decide, Tryz.func187.trans (congrArg some (by kernel_rfl))⟩
  f31 := Tryz.func188.trans (congrArg some (by kernel_rfl))
  f32 := Tryz.func189.trans (congrArg some (by kernel_rfl))
  f33 := ⟨Tryz.f190.name, by decide, Tryz.func190.trans (congrArg some (by kernel_rfl))⟩
  f34 := ⟨Tryz.f191.name, by decide, Tryz.func191.trans (congrArg some (by kernel_rfl))⟩
  f35 := ⟨Tryz.f192.name, by decide, Tryz.func192.trans (congrArg some (by kernel_rfl))⟩
  f40 := ⟨Tryz.f198.name, by decide, Tryz.func198.trans (congrArg some (by kernel_rfl))⟩
  t0 := Tryz.underlying0
  a0 := Tryz.isAgg0
  z0 := Tryz.sizeOf0
  v0 := Tryz.zeroValue0
  t3 := Tryz.underlying3
  a3 := Tryz.isAgg3
  z3 := Tryz.sizeOf3
  v3 := Tryz.zeroValue3
  t4 := Tryz.underlying4
  a4 := Tryz.isAgg4
  z4 := Tryz.sizeOf4
  v4 := Tryz.zeroValue4
  t5 := Tryz.underlying5
  a5 := Tryz.isAgg5
  z5 := Tryz.sizeOf5
  v5 := Tryz.zeroValue5
  t9 := Tryz.underlying9
  a9 := Tryz.isAgg9
  z9 := Tryz.sizeOf9
  v9 := Tryz.zeroValue9
  t22 := Tryz.underlying64
  a22 := Tryz.isAgg64
  z22 := Tryz.sizeOf64
  v22 := Tryz.zeroValue64
  t23 := Tryz.underlying64
  a23 := Tryz.isAgg64
  z23 := Tryz.sizeOf64
  v23 := Tryz.zeroValue64
  t25 := Tryz.underlying3
  a25 := Tryz.isAgg3
  z25 := Tryz.sizeOf3
  v25 := Tryz.zeroValue3
  t32 := Tryz.underlying166
  a32 := Tryz.isAgg166
  z32 := Tryz.sizeOf166
  v32 := Tryz.zeroValue166
  t35 := Tryz.underlying244
  a35 := Tryz.isAgg244
  z35 := Tryz.sizeOf244
  v35 := Tryz.zeroValue244
  t36 := Tryz.underlying245
  a36 := Tryz.isAgg245
  z36 := Tryz.sizeOf245
  v36 := Tryz.zeroValue245
  t41 := Tryz.underlying249
  a41 := Tryz.isAgg249
  z41 := Tryz.sizeOf249
  v41 := Tryz.zeroValue249
  t44 := Tryz.underlying222
  a44 := Tryz.isAgg222
  z44 := Tryz.sizeOf222
  v44 := Tryz.zeroValue222
  t46 := Tryz.underlying175
  a46 := Tryz.isAgg175
  z46 := Tryz.sizeOf175
  v46 := Tryz.zeroValue175
  t53 := Tryz.underlying265
  a53 := Tryz.isAgg265
  z53 := Tryz.sizeOf265
  v53 := Tryz.zeroValue265
  t57 := Tryz.underlying268
  a57 := Tryz.isAgg268
  z57 := Tryz.sizeOf268
  v57 := Tryz.zeroValue268
  t63 := Tryz.underlying283
  a63 := Tryz.isAgg283
  z63 := Tryz.sizeOf283
  v63 := Tryz.zeroValue283
  t64 := Tryz.underlying284
  a64 := Tryz.isAgg284
  z64 := Tryz.sizeOf284
  v64 := Tryz.zeroValue284 }
end Go.Proofs.YtmbonngjkgcijaaGreatDoor

namespace Go.Proofs.YtmbonngjkgcijaaGreatDoor
open Go.RowKit Go.Sort Go.Shelf

theorem prow_own {w : World} {base : Nat} {e : TypeId} {z : Nat} {v : Value} {n : Nat} {xs : List Value} (h : w.ownsRow base e z v n xs) : RowIs w z v n xs ∧ ∀ g, v.ownBlock = some g → base ≤ g := by
  obtain ⟨h0, ⟨rfl, rfl⟩ | ⟨g, cap, cur, rfl, hg, hh, hn, hc, hs, ht⟩⟩ := h
  · exact ⟨.inl ⟨rfl, rfl, List.eq_nil_of_length_eq_zero (by simpa using h0)⟩, fun g h => by cases h⟩
  · refine ⟨.inr ⟨g, cap, rfl, h0, hn, heap_lt hh, by rw [h0]; exact Nat.mul_le_mul_right _ hn, hc, fun j b hj => ?_, fun j hj => ⟨?_, free0 hh j⟩⟩, fun g' h => by cases h; exact hg⟩
    · rw [cell_of hh]
      rw [← ht, List.getElem?_take] at hj
      split at hj
      · simpa using hj
      · cases hj
    · rw [cell_of hh, Array.getElem?_eq_getElem (by omega)]; rfl
theorem sortsP (m : Nat) : AnyZI.SortsIn Tryz.prog Tryz.sortedA_ren Fence.wide m :=
  ⟨fun blk off cap ss W hH hblk hsz => callsIn_wide.2 (AnyM.slices_Sort_int Tryz.sortA blk off cap ss W hH hblk hsz),
   fun p cap W => callsIn_wide.2 (AnyM.slices_Sort_int_none Tryz.sortA p cap W)⟩
def anyP : Value → Option (DataW Unit × List MemPlace) := fun _ => some (.nil, [])
theorem powns_any {w : World} {m c : Nat} {L : List MapEntry} (h : MapIs Tryz.prog 3 w m L c) (hL : L.length ≤ maxLen) : w.ownsMap Tryz.prog 3 anyP m L.length (.map ((L.map (Go.WideElems.rg Tryz.prog 3 anyP)).foldr DataW.insert [])) := by
  refine ⟨L.toArray, c, h.at_, ⟨by simpa using hL, ⟨by simpa using h.born, by simpa using h.apart, by simpa using h.one⟩, fun x hx => ?_⟩, by simp, by simp⟩
  obtain ⟨l, hl⟩ := h.keys x (by simpa using hx)
  exact ⟨_, by unfold Go.WideElems.rd anyP; rw [hl]; rfl⟩
end Go.Proofs.YtmbonngjkgcijaaGreatDoor

namespace Go.Proofs.YtmbonngjkgcijaaGreatDoor
open Go.RowKit Go.Shelf

section
variable {w w' : World} {b mp : Nat} {ev : Int} {L : List Rq} {c : Nat} {R : Nat → Prop}
end
section
variable {w : World} {b mp : Nat} {ev : Int} {L : List Rq} {c : Nat} {R : Nat → Prop}
end
end Go.Proofs.YtmbonngjkgcijaaGreatDoor

namespace Go.Proofs.YtmbonngjkgcijaaGreatDoor
open Go.RowKit Go.Shelf

section
variable {w : World} {b mp : Nat} {ev : Int} {L : List Rq} {c : Nat} {R : Nat → Prop}
end
end Go.Proofs.YtmbonngjkgcijaaGreatDoor

namespace Go.Proofs.YtmbonngjkgcijaaGreatDoor
open Go.RowKit

end Go.Proofs.YtmbonngjkgcijaaGreatDoor

namespace Go.Proofs.YtmbonngjkgcijaaGreatDoor
open Go.RowKit Go.Shelf

/-- What a Put makes of the requests. -/
def PutS (L : List Rq) (n : Rq) (L' : List Rq) : Prop := (∃ (j : Nat) (x : Rq), L[j]? = some x ∧ x.m.g = n.m.g ∧ L' = L.set j n) ∨ ((∀ e ∈ L, e.m.g ≠ n.m.g) ∧ L' = L ++ [n])
theorem PutS.mem {L L' : List Rq} {n : Rq} (h : PutS L n L') : ∀ e ∈ L', e ∈ L ∨ e = n := by
  intro e he
  rcases h with ⟨j, x, _, _, rfl⟩ | ⟨_, rfl⟩
  · exact List.mem_or_eq_of_mem_set he
  · rcases List.mem_append.1 he with h | h
    · exact .inl h
    · exact .inr (by simpa using h)
section
variable {w : World} {b mp : Nat} {ev : Int} {L : List Rq} {c : Nat} {R : Nat → Prop}
theorem BoxAt.put (h : BoxAt w b mp ev L c R) {W : World} (hb : Below w.heap.size w W) (n : Rq) (hn : W.heap[n.rb]? = some (.cells n.cells 155 (0, 0))) (hrb : w.heap.size ≤ n.rb)
    (ht : NumsAt W (.slice n.tA n.m.tl.length n.tc) n.m.tl) (ho : OpsAt W (.slice n.oA n.m.os.length n.oc) n.m.os) (hk : KeysIn n.m.os) (hm : mayM n.m = true)
    (fT : ∀ a, n.tA = some a → w.heap.size ≤ a.block ∧ a.block ≠ n.rb) (fO : ∀ a, n.oA = some a → w.heap.size ≤ a.block ∧ a.block ≠ n.rb) :
    ∃ W' L' c' bn, (Instr.mapUpdate 141 (.map (some mp)) (.int .i64 n.m.g) (.pointer (some ⟨n.rb, 0, none⟩))).run Tryz.prog W = .ok () W' ∧ BoxAt W' b mp ev L' c' (fun k => R k ∨ k = n.rb) ∧ PutS L { n with born := bn } L' ∧ Touch (fun k => k = mp) W W' := by
  have hW := h.below hb
  have hg := mayM_g hm
  have hmlt := h.map.lt
  have core : ∀ (W' : World) (L' : List Rq) (c' bn : Nat), PutS L { n with born := bn } L' → Touch (fun k => k = mp) W W' → MapIs Tryz.prog 3 W' mp (L'.map Rq.me) c' → BoxAt W' b mp ev L' c' (fun k => R k ∨ k = n.rb) := by
    intro W' L' c' bn hP hT hM
    have hmem := hP.mem
    have hne : n.rb ≠ mp := by omega
    refine ⟨?_, hM, fun e he => ?_, fun e he => ?_, fun e he => ?_, fun e he => ?_, fun e he => ?_, fun e he hl a ha => ?_, fun e he hl a ha => ?_, fun e he => ?_, fun k hk => ?_, ?_, ?_⟩
    · exact (hT.block _ (heap_lt hW.head) hW.offR.2.2).trans hW.head
    · rcases hmem e he with h1 | rfl
      · exact (hT.block _ (heap_lt (hW.req e h1)) (fun q => hW.offR.1 (q ▸ hW.inR e h1))).trans (hW.req e h1)
      · exact (hT.block _ (heap_lt hn) hne).trans hn
    · rcases hmem e he with h1 | rfl
      · exact (hW.tl e h1).touch hT (fun hl a ha => (h.farT e h1 hl a ha).2)
      · exact ht.touch hT (fun _ a ha q => by have := (fT a ha).1; omega)
    · rcases hmem e he with h1 | rfl
      · exact (hW.os e h1).touch hT (fun hl a ha => (h.farO e h1 hl a ha).2)
      · exact ho.touch hT (fun _ a ha q => by have := (fO a ha).1; omega)
    · rcases hmem e he with h1 | rfl
      · exact h.keys e h1
      · exact hk
    · rcases hmem e he with h1 | rfl
      · exact h.may e h1
      · exact hm
    · rcases hmem e he with h1 | rfl
      · refine ⟨fun q => ?_, (h.farT e h1 hl a ha).2⟩
        rcases q with q | q
        · exact (h.farT e h1 hl a ha).1 q
        · have hlt : a.block < w.heap.size := by
            obtain ⟨A', c', e', h2, h3, h4⟩ := h.tl e h1
            cases hx : e.m.tl with
            | nil => exact absurd hx hl
            | cons x r =>
              obtain ⟨a', q1, q2, _⟩ := h4 0 x (by rw [hx]; rfl)
              have : e.tA = A' := by injection e'
              rw [← this, ha] at q1
              cases q1
              exact q2
          omega
      · have := fT a ha
        refine ⟨fun q => ?_, by omega⟩
        rcases q with q | q
        · have := h.ltR _ q; omega
        · exact this.2 q
    · rcases hmem e he with h1 | rfl
      · refine ⟨fun q => ?_, (h.farO e h1 hl a ha).2⟩
        rcases q with q | q
        · exact (h.farO e h1 hl a ha).1 q
        · have hlt : a.block < w.heap.size := by
            obtain ⟨A', c', e', h2, h3, h4⟩ := (h.os e h1).form
            cases hx : e.m.os with
            | nil => exact absurd hx hl
            | cons x r =>
              obtain ⟨a', q1, q2, _⟩ := h4 0 x (by rw [hx]; rfl)
              have : e.oA = A' := by injection e'
              rw [← this, ha] at q1
              cases q1
              exact q2
          omega
      · have := fO a ha
        refine ⟨fun q => ?_, by omega⟩
        rcases q with q | q
        · have := h.ltR _ q; omega
        · exact this.2 q
    · rcases hmem e he with h1 | rfl
      · exact .inl (h.inR e h1)
      · exact .inr rfl
    · rcases hk with q | q
      · exact Nat.lt_of_lt_of_le (Nat.lt_of_lt_of_le (h.ltR k q) hb.size) hT.size
      · rw [q]; exact Nat.lt_of_lt_of_le (heap_lt hn) hT.size
    · refine ⟨fun q => ?_, fun q => ?_, h.offR.2.2⟩
      · rcases q with q | q
        · exact h.offR.1 q
        · exact hne q.symm
      · rcases q with q | q
        · exact h.offR.2.1 q
        · have := heap_lt h.head; omega
    · have hold : ∀ e ∈ L, e.rb ≠ n.rb := fun e he q => by have := h.ltR _ (h.inR e he); omega
      intro i j x y hx hy hxy
      rcases hP with ⟨p, z, hz, _, rfl⟩ | ⟨_, rfl⟩
      · rw [List.getElem?_set] at hx hy
        split at hx
        · split at hy
          · omega
          · split at hx
            · cases hx
              exact absurd hxy.symm (hold y (List.mem_of_getElem? hy))
            · cases hx
        · split at hy
          · split at hy
            · cases hy
              exact absurd hxy (hold x (List.mem_of_getElem? hx))
            · cases hy
          · exact h.one i j x y hx hy hxy
      · rw [List.getElem?_append] at hx hy
        split at hx
        · split at hy
          · exact h.one i j x y hx hy hxy
          · have : y = { n with born := bn } := by
              have := List.mem_of_getElem? hy
              simpa using this
            subst this
            exact absurd hxy (hold x (List.mem_of_getElem? hx))
        · split at hy
          · have : x = { n with born := bn } := by
              have := List.mem_of_getElem? hx
              simpa using this
            subst this
            exact absurd hxy.symm (hold y (List.mem_of_getElem? hy))
          · have h1 := (List.getElem?_eq_some_iff.1 hx).1
            have h2 := (List.getElem?_eq_some_iff.1 hy).1
            simp at h1 h2
            omega
  rcases rq_cases L n.m.g with ⟨j, x, hj, hx⟩ | hno
  · obtain ⟨r1, r2⟩ := hW.map.put_hit keyedP Tryz.underlying141 (x := .int .i64 n.m.g) (v := .pointer (some ⟨n.rb, 0, none⟩)) (key_g (by omega) (by omega)) (rme_at hj) (by rw [← hx]; rfl)
    have hP : PutS L { n with born := x.born } (L.set j { n with born := x.born }) := .inl ⟨j, x, hj, hx, rfl⟩
    refine ⟨_, _, c, x.born, r1, core _ _ _ _ hP ((Touch.refl (fun k => k = mp) W).set mp _ (fun _ => rfl)) ?_, hP, (Touch.refl (fun k => k = mp) W).set mp _ (fun _ => rfl)⟩
    have e1 : (L.set j { n with born := x.born }).map Rq.me = (L.map Rq.me).set j { x.me with val := .pointer (some ⟨n.rb, 0, none⟩) } := by
      have e0 : Rq.me { n with born := x.born } = { x.me with val := .pointer (some ⟨n.rb, 0, none⟩) } := by
        show (⟨Value.int .i64 n.m.g, Value.pointer (some ⟨n.rb, 0, none⟩), x.born⟩ : MapEntry) = ⟨Value.int .i64 x.m.g, Value.pointer (some ⟨n.rb, 0, none⟩), x.born⟩
        rw [hx]
      rw [map_set', e0]
    rw [e1]
    exact r2
  · obtain ⟨r1, r2⟩ := hW.map.put_miss keyedP Tryz.underlying141 (x := .int .i64 n.m.g) (v := .pointer (some ⟨n.rb, 0, none⟩)) (key_g (by omega) (by omega)) (rme_miss hno)
    have hP : PutS L { n with born := c } (L ++ [{ n with born := c }]) := .inr ⟨hno, rfl⟩
    refine ⟨_, _, c + 1, c, r1, core _ _ _ _ hP ((Touch.refl (fun k => k = mp) W).set mp _ (fun _ => rfl)) ?_, hP, (Touch.refl (fun k => k = mp) W).set mp _ (fun _ => rfl)⟩
    have e1 : (L ++ [{ n with born := c }]).map Rq.me = L.map Rq.me ++ [(⟨.int .i64 n.m.g, .pointer (some ⟨n.rb, 0, none⟩), c⟩ : MapEntry)] := by
      rw [List.map_append]
      rfl
    rw [e1]
    exact r2
end
end Go.Proofs.YtmbonngjkgcijaaGreatDoor

namespace Go.Proofs.YtmbonngjkgcijaaGreatDoor
open Go.RowKit Go.Shelf

theorem Glob.touch {S : Nat → Prop} {w w' : World} (h : Glob w) (ht : Touch S w w') (hS : ¬ S 1) : Glob w' := by
  unfold Glob
  rw [World.cell?_of_block (a := ⟨1, 0, none⟩) (ht.block _ h.lt hS)]
  exact h
section
variable {w : World} {b mp : Nat} {ev : Int} {L : List Rq} {c : Nat} {R : Nat → Prop}
end
end Go.Proofs.YtmbonngjkgcijaaGreatDoor

namespace Go.Proofs.YtmbonngjkgcijaaGreatDoor
open Go.RowKit Go.Shelf
section
variable {w : World} {b : Nat} {most : Int} {v : Value} {L : List Pk} {mp : Nat} {C : List MapEntry} {c : Nat} {ro : Nat → Nat}
/-- Send of one message, in plain words. -/
def sendL (most : Int) (P : List P3) (m : MsgV) : List P3 := if mayM m = true ∧ (P.length : Int) < most then P ++ [(encM m, siteM m, 0)] else P
/-- What a message must be so that it may be sent here. -/
def SendOk (C : List MapEntry) (m : MsgV) : Prop := mayM m = true → MsgIn m ∧ (-9223372036854775808 ≤ siteM m ∧ siteM m ≤ 9223372036854775807) ∧ ∀ e ∈ C, e.key ≠ .int .i64 (siteM m)
/-- A call that leaves the packets P. -/
def NetP (w : World) (b : Nat) (most : Int) (mp : Nat) (C : List MapEntry) (c : Nat) (ro : Nat → Nat) (P : List P3) (w' : World) : Prop :=
  ∃ v' ro' L', NetAt w' b most v' L' mp C c ro' ∧ Step w w' ro ro' ∧ L'.map Pk.p = P
theorem nsend_any (hG : Glob w) (hMv : Mov w) (h : NetAt w b most v L mp C c ro) (hmost : most ≤ 1024) {v0 : Value} {m : MsgV} (hm : MsgIs w v0 m) (hok : SendOk C m) :
    Calls Tryz.prog 56 #[.pointer (some ⟨b, 0, none⟩), v0] w fun e w' => e = .returned (.tuple #[]) ∧ NetP w b most mp C c ro (sendL most (L.map Pk.p) m) w' := by
  cases ha : mayM m with
  | false =>
    refine (nsend_not hG h hm ha).mono ?_
    rintro e w' ⟨rfl, v', ro', L', h1, h2, _, h3⟩
    refine ⟨rfl, v', ro', L', h1, h2, ?_⟩
    rw [h3 rfl, sendL, if_neg (by rw [ha]; rintro ⟨e, _⟩; cases e)]
  | true =>
    obtain ⟨hi, hr, hno⟩ := hok ha
    refine (nsend_yes hG hMv h hmost hm ha hi hr hno).mono ?_
    rintro e w' ⟨rfl, v', ro', L', h1, h2, h3, h4⟩
    refine ⟨rfl, v', ro', L', h1, h2, ?_⟩
    by_cases hl : (L.length : Int) < most
    · obtain ⟨x, rfl, hx⟩ := h3 (decide_eq_true hl)
      rw [sendL, if_pos ⟨ha, by rw [List.length_map]; exact hl⟩, List.map_append, ← hx]
      rfl
    · rw [h4 (decide_eq_false hl), sendL, if_neg (by rw [List.length_map]; exact fun e => hl e.2)]
set_option maxRecDepth 100000 in
set_option maxHeartbeats 4000000 in
theorem nSend_any (hG : Glob w) (hMv : Mov w) (h0 : ro 1 = 0 ∧ ro 0 = 0) (h : NetAt w b most v L mp C c ro) (hmost : most ≤ 1024) {g cap : Nat} {ms : List MsgV} (hle : ms.length ≤ cap) (hlen : ms.length ≤ 1000)
    (hms : ∀ (i : Nat) (m : MsgV), ms[i]? = some m → SendOk C m ∧ ∃ tA tc oA oc, ∀ W ro', Step w W ro ro' → M11 W ⟨g, i * 11, none⟩ m tA tc oA oc ∧ MsgIs W (.agg (msgCells m tA tc oA oc)) m) :
    Calls Tryz.prog 18 #[.pointer (some ⟨b, 0, none⟩), .slice (some ⟨g, 0, none⟩) ms.length cap] w fun e w' => ∃ P, e = .returned (.int .i64 ((P.length : Int) - (L.length : Int))) ∧ NetP w b most mp C c ro P w' ∧ P = ms.foldl (sendL most) (L.map Pk.p) := by
  obtain ⟨n, hn⟩ : ∃ n, ms.length = n := ⟨_, rfl⟩
  rw [hn] at hle hlen ⊢
  have HNO := Lib.hid (nnone_any h.head)
  have HLE := Lib.hid (nlen_any h)
  have HH := Lib.hid h
  have HMS := Lib.hid hms
  have HN := Lib.hid hn
  have HG : Hid (∀ W ro', Step w W ro ro' → Glob W ∧ Mov W) := Lib.hid (fun W ro' hs => ⟨hG.touch hs.1 (fun e => e h0.1), fun r t ht => (World.cell?_of_block (a := ⟨0, r, none⟩) (hs.1.block _ hMv.lt (fun e => e h0.2))).trans (hMv r t ht)⟩)
  have HMO := Lib.hid hmost
  clear h hms hn hG hMv h0 hmost
  go_enter Tryz.func18, Tryz.ntmps18
  go_wp2_with fail
  refine (HNO.out).mono ?_
  rintro e w1 ⟨rfl, rfl⟩
  go_wp2_with fail
  refine (HLE.out).mono ?_
  rintro e w1 ⟨rfl, rfl⟩
  go_wp2_with fail
  go_loopw [14] (fun iv wr => ∃ (k : Nat) (v' : Value) (ro' : Nat → Nat) (L' : List Pk), k ≤ n ∧ iv = .int .i64 k ∧ NetAt wr b most v' L' mp C c ro' ∧ Step w1 wr ro ro' ∧ L'.map Pk.p = (ms.take k).foldl (sendL most) (L.map Pk.p)) (fun iv _ => n - (intOf iv).toNat)
  case atStart => exact ⟨0, v, ro, L, by omega, rfl, HH.out, Step.refl _ _, by simp⟩
  case round =>
    obtain ⟨k, v', ro', L', hk, rfl, hnet, hst, hP⟩ := hrel
    have HS := Lib.hid (And.intro hnet (And.intro hst hP))
    clear hnet hst hP
    by_cases hlt : k < n
    · have hx : ms[k]? = some (ms[k]'(by have := HN.out; omega)) := List.getElem?_eq_getElem _
      generalize ms[k]'(by have := HN.out; omega) = m at hx
      have HX := Lib.hid hx
      obtain ⟨hok, tA, tc, oA, oc, hms⟩ := HMS.out k m hx
      have HOK := Lib.hid hok
      have HMSW := Lib.hid hms
      have hm11 := (hms _ _ HS.out.2.1).1
      obtain ⟨a0, a1, a2, a3, a4, a5, a6, a7, a8, a9, a10⟩ := hm11
      have HLT := Lib.hid hlt
      clear hx hok hms
      have hb1 := below_new (w := wr) (.cells (msgCells m tA tc oA oc) 50)
      have hst1 := HS.out.2.1.after hb1
      have HSE := Lib.hid (nsend_any (HG.out _ _ hst1).1 (HG.out _ _ hst1).2 (HS.out.1.below hb1) HMO.out (HMSW.out _ _ hst1).2 HOK.out)
      have HST1 := Lib.hid hst1
      unfold msgCells at HSE HST1
      clear hb1 hst1
      go_wp2_with fail
      refine (HSE.out).mono ?_
      rintro e w2 ⟨rfl, v2, ro2, L2, hn2, hs2, hp2⟩
      have HS2 := Lib.hid (And.intro hn2 (And.intro (HST1.out.trans hs2) hp2))
      clear hn2 hs2 hp2 a0 a1 a2 a3 a4 a5 a6 a7 a8 a9 a10
      have hwk : IntKind.i64.wrap ((k : Int) + 1) = (k : Int) + 1 := IntWalk.i64_in _ (by omega)
      go_wp2_with fail
      go_roundw
      case rel =>
        refine ⟨k + 1, v2, ro2, L2, HLT.out, by go_num, HS2.out.1, HS2.out.2.1, ?_⟩
        rw [HS2.out.2.2, HS.out.2.2, List.take_add_one, HX.out, List.foldl_append]
        rfl
      case measure => have := HLT.out; simp [intOf]; omega
    · obtain rfl : k = n := by omega
      have HLE2 := Lib.hid (nlen_any HS.out.1)
      go_wp2_with fail
      refine (HLE2.out).mono ?_
      rintro e w2 ⟨rfl, rfl⟩
      have hw1 := HS.out.1.few.1
      have hw2 := HH.out.few.1
      have hwr : IntKind.i64.wrap ((L'.length : Int) - (L.length : Int)) = (L'.length : Int) - (L.length : Int) := IntWalk.i64_in _ (by omega)
      clear hw1 hw2
      go_wp2_with fail
      go_ret
      have h3 := HS.out.2.2
      rw [List.take_of_length_le (by rw [HN.out]; exact Nat.le_refl _)] at h3
      exact ⟨L'.map Pk.p, by rw [List.length_map]; rfl, ⟨_, _, _, HS.out.1, HS.out.2.1, rfl⟩, h3⟩
end
end Go.Proofs.YtmbonngjkgcijaaGreatDoor

namespace Go.Proofs.YtmbonngjkgcijaaGreatDoor
open Go.RowKit Go.Shelf
section
variable {w : World}
set_option maxRecDepth 100000 in
theorem nDrop_no (hG : Glob w) {p : Value} {i n : Int} (hf : Calls Tryz.prog 64 #[p, .int .i64 i] w (FindP n w)) : Calls Tryz.prog 25 #[p, .int .i64 i] w fun e w' => e = .returned (.int .i64 n) ∧ Below w.heap.size w w' := by
  have HF := Lib.hid hf
  have HG := Lib.hid hG
  clear hf hG
  go_enter Tryz.func25, Tryz.ntmps25
  go_wp2_with fail
  refine (HF.out).mono ?_
  rintro e w1 ⟨v1, rfl, ⟨t, u, rfl⟩, ⟨ch, h1, h2, h3, h4⟩, hb⟩
  have HB := Lib.hid hb
  have HC := Lib.hid (code_any (w := w1) (W := w1) (HG.out.below hb) h1 h2 (by omega) (Below.refl _ _))
  have H4 := Lib.hid h4
  clear h1 h2 h3 h4 hb
  go_wp2_with fail
  refine (HC.out).mono ?_
  rintro e w2 ⟨rfl, hb2⟩
  have HB2 := Lib.hid (HB.out.trans (hb2.mono HB.out.size))
  clear hb2
  go_wp2_with fail
  go_ret
  exact ⟨by rw [← H4.out]; rfl, HB2.out⟩
set_option maxRecDepth 100000 in
theorem nTwice_no (hG : Glob w) {p : Value} {i n : Int} (hf : Calls Tryz.prog 64 #[p, .int .i64 i] w (FindP n w)) : Calls Tryz.prog 26 #[p, .int .i64 i] w fun e w' => e = .returned (.int .i64 n) ∧ Below w.heap.size w w' := by
  have HF := Lib.hid hf
  have HG := Lib.hid hG
  clear hf hG
  go_enter Tryz.func26, Tryz.ntmps26
  go_wp2_with fail
  refine (HF.out).mono ?_
  rintro e w1 ⟨v1, rfl, ⟨t, u, rfl⟩, ⟨ch, h1, h2, h3, h4⟩, hb⟩
  have HB := Lib.hid hb
  have HC := Lib.hid (code_any (w := w1) (W := w1) (HG.out.below hb) h1 h2 (by omega) (Below.refl _ _))
  have H4 := Lib.hid h4
  clear h1 h2 h3 h4 hb
  go_wp2_with fail
  refine (HC.out).mono ?_
  rintro e w2 ⟨rfl, hb2⟩
  have HB2 := Lib.hid (HB.out.trans (hb2.mono HB.out.size))
  clear hb2
  go_wp2_with fail
  go_ret
  exact ⟨by rw [← H4.out]; rfl, HB2.out⟩
set_option maxRecDepth 100000 in
theorem nMove_no (hG : Glob w) {p : Value} {i n k : Int} (hf : Calls Tryz.prog 64 #[p, .int .i64 i] w (FindP n w)) : Calls Tryz.prog 27 #[p, .int .i64 i, .int .i64 k] w fun e w' => e = .returned (.int .i64 n) ∧ Below w.heap.size w w' := by
  have HF := Lib.hid hf
  have HG := Lib.hid hG
  clear hf hG
  go_enter Tryz.func27, Tryz.ntmps27
  go_wp2_with fail
  refine (HF.out).mono ?_
  rintro e w1 ⟨v1, rfl, ⟨t, u, rfl⟩, ⟨ch, h1, h2, h3, h4⟩, hb⟩
  have HB := Lib.hid hb
  have HC := Lib.hid (code_any (w := w1) (W := w1) (HG.out.below hb) h1 h2 (by omega) (Below.refl _ _))
  have H4 := Lib.hid h4
  clear h1 h2 h3 h4 hb
  go_wp2_with fail
  refine (HC.out).mono ?_
  rintro e w2 ⟨rfl, hb2⟩
  have HB2 := Lib.hid (HB.out.trans (hb2.mono HB.out.size))
  clear hb2
  go_wp2_with fail
  go_ret
  exact ⟨by rw [← H4.out]; rfl, HB2.out⟩
set_option maxRecDepth 100000 in
theorem nHold_no (hG : Glob w) {p : Value} {i n k : Int} (hf : Calls Tryz.prog 64 #[p, .int .i64 i] w (FindP n w)) : Calls Tryz.prog 28 #[p, .int .i64 i, .int .i64 k] w fun e w' => e = .returned (.int .i64 n) ∧ Below w.heap.size w w' := by
  have HF := Lib.hid hf
  have HG := Lib.hid hG
  clear hf hG
  go_enter Tryz.func28, Tryz.ntmps28
  go_wp2_with fail
  refine (HF.out).mono ?_
  rintro e w1 ⟨v1, rfl, ⟨t, u, rfl⟩, ⟨ch, h1, h2, h3, h4⟩, hb⟩
  have HB := Lib.hid hb
  have HC := Lib.hid (code_any (w := w1) (W := w1) (HG.out.below hb) h1 h2 (by omega) (Below.refl _ _))
  have H4 := Lib.hid h4
  clear h1 h2 h3 h4 hb
  go_wp2_with fail
  refine (HC.out).mono ?_
  rintro e w2 ⟨rfl, hb2⟩
  have HB2 := Lib.hid (HB.out.trans (hb2.mono HB.out.size))
  clear hb2
  go_wp2_with fail
  go_ret
  exact ⟨by rw [← H4.out]; rfl, HB2.out⟩
set_option maxRecDepth 100000 in
theorem nSpoil_no (hG : Glob w) {p : Value} {i n k : Int} (hf : Calls Tryz.prog 64 #[p, .int .i64 i] w (FindP n w)) : Calls Tryz.prog 29 #[p, .int .i64 i, .int .i64 k] w fun e w' => e = .returned (.int .i64 n) ∧ Below w.heap.size w w' := by
  have HF := Lib.hid hf
  have HG := Lib.hid hG
  clear hf hG
  go_enter Tryz.func29, Tryz.ntmps29
  go_wp2_with fail
  refine (HF.out).mono ?_
  rintro e w1 ⟨v1, rfl, ⟨t, u, rfl⟩, ⟨ch, h1, h2, h3, h4⟩, hb⟩
  have HB := Lib.hid hb
  have HC := Lib.hid (code_any (w := w1) (W := w1) (HG.out.below hb) h1 h2 (by omega) (Below.refl _ _))
  have H4 := Lib.hid h4
  clear h1 h2 h3 h4 hb
  go_wp2_with fail
  refine (HC.out).mono ?_
  rintro e w2 ⟨rfl, hb2⟩
  have HB2 := Lib.hid (HB.out.trans (hb2.mono HB.out.size))
  clear hb2
  go_wp2_with fail
  go_ret
  exact ⟨by rw [← H4.out]; rfl, HB2.out⟩
theorem nWaits_no {p : Value} {i n : Int} (hf : Calls Tryz.prog 64 #[p, .int .i64 i] w (FindP n w)) : Calls Tryz.prog 34 #[p, .int .i64 i] w fun e w' => e = .returned (.int .i64 0) ∧ Below w.heap.size w w' := by
  have HF := Lib.hid hf
  clear hf
  go_enter Tryz.func34, Tryz.ntmps34
  go_wp2_with fail
  refine (HF.out).mono ?_
  rintro e w1 ⟨v1, rfl, ⟨t, u, rfl⟩, _, hb⟩
  have HB := Lib.hid hb
  clear hb
  go_wp2_with fail
  go_ret
  exact ⟨rfl, HB.out⟩
theorem nPacket_no {p : Value} {i n : Int} (hf : Calls Tryz.prog 64 #[p, .int .i64 i] w (FindP n w)) : Calls Tryz.prog 21 #[p, .int .i64 i] w fun e w' => e = .returned (.slice none 0 0) ∧ Below w.heap.size w w' := by
  have HF := Lib.hid hf
  clear hf
  go_enter Tryz.func21, Tryz.ntmps21
  go_wp2_with fail
  refine (HF.out).mono ?_
  rintro e w1 ⟨v1, rfl, ⟨t, u, rfl⟩, _, hb⟩
  have HB := Lib.hid hb
  clear hb
  go_wp2_with fail
  go_ret
  exact ⟨rfl, HB.out⟩
set_option maxRecDepth 100000 in
theorem nDeliver_no (hG : Glob w) {p : Value} {i n : Int} (hf : ∀ W, Below w.heap.size w W → Calls Tryz.prog 64 #[p, .int .i64 i] W (FindP n W)) : Calls Tryz.prog 22 #[p, .int .i64 i] w fun e w' => e = .returned (.tuple #[zeroM, .int .i64 n]) ∧ Below w.heap.size w w' := by
  have HF := Lib.hid hf
  have HG := Lib.hid hG
  have hb0 := below_new (w := w) (.cells zeroC 50)
  have HB0 := Lib.hid hb0
  have HAT : Hid (∀ W, Below (w.alloc (.cells zeroC 50)).heap.size (w.alloc (.cells zeroC 50)) W → W.heap[w.heap.size]? = some (.cells zeroC 50 (0, 0))) := Lib.hid (fun W hW => (hW.block _ (by rw [asz]; exact Nat.lt_succ_self _)).trans (alloc_at _ _))
  clear hf hG hb0
  go_enter Tryz.func22, Tryz.ntmps22
  go_wp2_with fail
  refine (HF.out _ HB0.out).mono ?_
  rintro e w1 ⟨v1, rfl, ⟨t, u, rfl⟩, ⟨ch, h1, h2, h3, h4⟩, hb⟩
  have HB := Lib.hid (HB0.out.trans (hb.mono HB0.out.size))
  have HC := Lib.hid (code_any (w := w1) (W := w1) (HG.out.below HB.out) h1 h2 (by omega) (Below.refl _ _))
  have H4 := Lib.hid h4
  have HA1 := Lib.hid hb
  clear h1 h2 h3 h4 hb
  go_wp2_with fail
  refine (HC.out).mono ?_
  rintro e w2 ⟨rfl, hb2⟩
  have HB2 := Lib.hid (HB.out.trans (hb2.mono HB.out.size))
  have hat2 := HAT.out _ (HA1.out.trans (hb2.mono HA1.out.size))
  clear hb2
  have HZ5 := Lib.hid (setCells_at w.heap.size (zeroC).toList [] zeroC.toList w2 rfl hat2)
  have HT5 := Lib.hid (setCells_touch (S := fun k => k = w.heap.size) (a := w2) w.heap.size (fun _ => rfl) (zeroC).toList 0 w2 (Touch.refl _ _))
  have r0 := cell_of hat2 0; have r1 := cell_of hat2 1; have r2 := cell_of hat2 2; have r3 := cell_of hat2 3; have r4 := cell_of hat2 4; have r5 := cell_of hat2 5; have r6 := cell_of hat2 6; have r7 := cell_of hat2 7; have r8 := cell_of hat2 8; have r9 := cell_of hat2 9; have r10 := cell_of hat2 10
  simp at r0 r1 r2 r3 r4 r5 r6 r7 r8 r9 r10
  have f0 := free0 hat2 0; have f1 := free0 hat2 1; have f2 := free0 hat2 2; have f3 := free0 hat2 3; have f4 := free0 hat2 4; have f5 := free0 hat2 5; have f6 := free0 hat2 6; have f7 := free0 hat2 7; have f8 := free0 hat2 8; have f9 := free0 hat2 9; have f10 := free0 hat2 10
  clear hat2
  go_wp2_with fail
  change bodyPost _ _ _ _ _ (World.setCells _ w.heap.size 0 (zeroC).toList)
  simp only [List.length_nil, List.nil_append] at HZ5
  generalize World.setCells _ w.heap.size 0 (zeroC).toList = W5 at *
  clear r0 r1 r2 r3 r4 r5 r6 r7 r8 r9 r10 f0 f1 f2 f3 f4 f5 f6 f7 f8 f9 f10
  have j0 := cell_of HZ5.out 0; have j1 := cell_of HZ5.out 1; have j2 := cell_of HZ5.out 2; have j3 := cell_of HZ5.out 3; have j4 := cell_of HZ5.out 4; have j5 := cell_of HZ5.out 5; have j6 := cell_of HZ5.out 6; have j7 := cell_of HZ5.out 7; have j8 := cell_of HZ5.out 8; have j9 := cell_of HZ5.out 9; have j10 := cell_of HZ5.out 10
  simp at j0 j1 j2 j3 j4 j5 j6 j7 j8 j9 j10
  refine bodyPost_ret (v := .tuple #[zeroM, .int .i64 n]) (by simp [results, Tryz.results22, go_sem, j0, j1, j2, j3, j4, j5, j6, j7, j8, j9, j10, H4.out]) rfl ?_
  exact ⟨rfl, HB2.out.trans (HT5.out.below (fun i e => by omega) HB2.out.size)⟩
end
end Go.Proofs.YtmbonngjkgcijaaGreatDoor
