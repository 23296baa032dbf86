/- ChainOrders: the law's walk. -/
import Derived.Test.YtmaokoekbjjgfaaDoorZChcC
import Derived.Test.YtmaokoekbjjgfaaDoorZChaV
set_option linter.unusedSimpArgs false
set_option linter.unusedVariables false
set_option linter.unnecessarySimpa false
namespace Go.Proofs.YtmaokoekbjjgfaaDoor
open Go.RowKit Go.Shelf

theorem own_any2 {w : World} {v : Value} {l : List GotP} {t : Int} {g : GotP} {b : Bool} (h : GIs w v l) (hl : l.length ≤ 1000000) (hg : (ownP l t).getD got0 = g) (hb : (ownP l t).isSome = b) : Calls Tryd.prog 15 #[v, .int .i64 t] w fun e w' => e = .returned (.tuple #[.agg #[.int .i64 g.at_, .int .i64 g.n, .bool g.there], .bool b]) ∧ Below w.heap.size w w' := by
  subst hg hb
  exact own_any h hl
theorem app_gotS {w : World} {v : Value} {l : List GotP} (x : GotP) (ty : TypeId) {b : Nat} {T : TypeId} (h : GIs w v l) (hl : l.length ≤ 1000000) (hb : w.heap[b]? = some (.cells #[.int .i64 x.at_, .int .i64 x.n, .bool x.there] T (0, 0))) : ∃ v' w', (Builtin.append_ #[35, 35] ty #[v, .slice (some ⟨b, 0, none⟩) 1 1]).run Tryd.prog w = .ok v' w' ∧ GIs w' v' (l ++ [x]) ∧ Touch (fun k => v.ownBlock = some k) w w' ∧ (∀ k, v'.ownBlock = some k → v.ownBlock = some k ∨ w.heap.size ≤ k) := by
  have hsrc : Src Tryd.prog 3 35 (.slice (some ⟨b, 0, none⟩) 1 1) 1 [.int .i64 x.at_, .int .i64 x.n, .bool x.there] w :=
    Src.ofSlice _ Tryd.underlying35 ⟨b, 0, none⟩ 1 1 [.int .i64 x.at_, .int .i64 x.n, .bool x.there] rfl (fun j u hu => by
      rw [add0, cell_of hb]
      simpa using hu) (by simp [Value.oneCell'])
  obtain ⟨v', w', hr, h2, h3, h4⟩ := run_append_row w 35 40 ty 35 Tryd.underlying35 infoG rfl (by omega) (by omega) v l.length 1 (gotC l) [.int .i64 x.at_, .int .i64 x.n, .bool x.there] _ h hsrc (by omega)
  refine ⟨v', w', hr, by unfold GIs; rw [List.length_append, gotC_snoc]; exact h2, (Touch.refl _ w).grown h3 (fun k hk _ => hk), fun k hk => ?_⟩
  rcases h4 with e | e
  · exact .inl (e ▸ hk)
  · right
    rw [e] at hk
    have := Option.some.inj hk
    omega
theorem oper_app_run {P : Program} {w w' : World} {o : Oper} {a : Act} {K : Act → World → Prop} {Q : Exit → Act → World → Prop} (s x : Operand) (T tx : TypeId) (ho : o.op = .call { callee := .builtin .append, args := #[s, x], argTypes := #[T, tx] }) {u v v' : Value} (hs : a.eval s = u) (hx : a.eval x = v) (hrun : (Builtin.append_ #[T, tx] o.type #[u, v]).run P w = .ok v' w') (hK : K (a.put o.dst v') w') {c : Bool} (hc : c = true) {E : Prop} : if c = true then Oper.wp P o a w K Q else E := by
  rw [if_pos hc]
  unfold Oper.wp execOp
  simp only [ho, resolve, invoke, builtin, Sem.run_bind, Sem.run_pure, Result.andThen_ok, List.map_toArray, List.map_cons, List.map_nil, hs, hx, hrun]
  exact hK
/-- The cells that the region behind a write reads. -/
def S22 (p q : Nat) (t x : Int) (b : Bool) (W : World) : Prop := W.cell? ⟨p, 1, none⟩ = some (.int .i64 t) ∧ W.cell? ⟨q, 0, none⟩ = some (.int .i64 t) ∧ W.cell? ⟨q, 1, none⟩ = some (.int .i64 x) ∧ W.cell? ⟨q, 2, none⟩ = some (.bool b)
def verA (u : Ver) : Array Value := #[.int .i64 u.at_, .int .i64 u.n, .bool u.there, .int .i64 u.read, .bool u.opn]
/-- What a round of the innermost loop keeps: the box of what was got, that of the last version below, and all versions. -/
structure Lp3 (wr : World) (g : GotP) (L : List Ver) (j : Nat) (W : World) : Prop where
  below : Below wr.heap.size wr W
  got : W.heap[wr.heap.size]? = some (.cells #[.int .i64 g.at_, .int .i64 g.n, .bool g.there] 40 (0, 0))
  last : W.heap[wr.heap.size + 1]? = some (.cells (verA (belowP (L.take j) g.at_ ver0)) 47 (0, 0))
  all : W.heap[wr.heap.size + 2]? = some (.cells (verC L).toArray 47 (0, 0))
def boxG (wr : World) (g : GotP) : World := (wr.alloc (.cells #[.int .i64 g.at_, .int .i64 g.n, .bool g.there] 40)).alloc (.cells #[.int .i64 0, .int .i64 0, .bool false, .int .i64 0, .bool false] 47)
theorem lp3_below (wr : World) (g : GotP) : Below wr.heap.size wr (boxG wr g) := (below_new _).trans ((below_new _).mono (by rw [asz]; omega))
theorem boxG_size (wr : World) (g : GotP) : (boxG wr g).heap.size = wr.heap.size + 2 := by unfold boxG; rw [asz, asz]
theorem lp3_start (wr : World) (g : GotP) (L : List Ver) : Lp3 wr g L 0 ((boxG wr g).alloc (.cells (verC L).toArray 47)) := by
  have h3 := below_new (w := boxG wr g) (.cells (verC L).toArray 47)
  have hz := boxG_size wr g
  refine ⟨(lp3_below wr g).trans (h3.mono (by omega)), ?_, ?_, ?_⟩
  · refine (h3.block _ (by omega)).trans ?_
    exact ((below_new (w := wr.alloc _) _).block wr.heap.size (by rw [asz]; omega)).trans (alloc_at wr _)
  · refine (h3.block _ (by omega)).trans ?_
    have := alloc_at (wr.alloc (.cells #[.int .i64 g.at_, .int .i64 g.n, .bool g.there] 40)) (.cells #[.int .i64 0, .int .i64 0, .bool false, .int .i64 0, .bool false] 47)
    rw [asz] at this
    exact this
  · have := alloc_at (boxG wr g) (.cells (verC L).toArray 47)
    rw [hz] at this
    exact this
theorem below_step {L : List Ver} {j : Nat} {u : Ver} (h : L[j]? = some u) (t : Int) (z : Ver) : belowP (L.take (j + 1)) t z = if u.at_ < t then u else belowP (L.take j) t z := by
  rw [List.take_add_one, h]
  show belowP (L.take j ++ [u]) t z = _
  rw [belowP_snoc]
theorem hIR_last {L : List Ver} {wrote got : List GotP} {i : Nat} {g : GotP} (hx : got[i]? = some g) (h : Inv L wrote got) : (belowP L g.at_ ver0).n = g.n ∧ (belowP L g.at_ ver0).there = g.there := h.last (List.mem_of_getElem? hx) ver0
/-- What a round of the first loop keeps. -/
def Rd (w : World) (m c : Nat) (wv gv iv : Value) (wx : World) : Prop := ∃ (k : Nat) (L : List Ver) (wrote got : List GotP), k ≤ m ∧ k ≤ 40 ∧ iv = .int .i64 k ∧ Sit w wx c wv gv L wrote got k [] ∧ Inv L wrote got
set_option maxRecDepth 100000 in
set_option maxHeartbeats 40000000 in
theorem law_orders {w : World} (hG : Glob w) {ov : Value} {m : Nat} {n : Int} {th : Bool} (hn : InR64 n) (ho : OpsIs w ov m) : Calls Tryd.prog 4 #[.int .i64 n, .bool th, ov] w fun e w' => e = .returned (.bool true) ∧ Below w.heap.size w w' := by
  have HN := Lib.hid (New_any (n := n) (th := th) hG hn)
  obtain ⟨A, cap, rfl, ho1, ho2, ho3⟩ := ho
  have HO3 := Lib.hid ho3
  have HG := Lib.hid hG
  unfold maxLen at ho2
  clear ho3 hG hn
  go_enter Tryd.func4, Tryd.ntmps4
  go_wp2_with fail
  refine (HN.out).mono ?_
  rintro e w1 ⟨c, v, rfl, hc, hb1, hc1, hv1⟩
  have HS := Lib.hid (sit_none HG.out hc hb1 hc1 hv1 (Nat.le_refl 1))
  have HI := Lib.hid (inv_new (numT n th) th)
  clear hc hb1 hc1 hv1 HN
  go_upto_block 0 with fail
  go_cut [6, 8, 9, 10, 11, 12, 13, 14, 15, 16, 17] from 28 to 132 (fun u6 wv gv u10 u11 u12 u13 u14 u15 u16 u17 wx => ∃ iv, Rd w m c wv gv iv wx)
  case first =>
    go_wp2_with fail
    go_loopw [8, 9, 28] (fun wv gv iv wx => Rd w m c wv gv iv wx) (fun _ _ iv _ => m - (intOf iv).toNat)
    case atStart => exact ⟨0, _, _, _, Nat.zero_le _, Nat.zero_le _, rfl, HS.out, HI.out⟩
    case round =>
      obtain ⟨k, L, wrote, got, hkm, hk40, rfl, hs, hI⟩ := hrel
      have HS1 := Lib.hid hs
      have HI1 := Lib.hid hI
      clear HS HI
      by_cases hlt : k < m ∧ k < 40
      · obtain ⟨a, kd, t, x, b, rfl, hab, k0, k1, k2, k3, ht, hx⟩ := HO3.out k hlt.1
        have l1 : (k : Int) < (m : Int) := by omega
        have l2 : (k : Int) < 40 := by omega
        have HB := Lib.hid hs.below
        replace k0 := (HB.out.cell (p := a.add (k * 4)) (by rw [add_block]; exact hab)).trans k0
        replace k1 : wr.cell? ⟨(a.add (k * 4)).block, (a.add (k * 4)).off + 1, none⟩ = some (.int .i64 t) := (HB.out.cell (p := (a.add (k * 4)).add 1) (by rw [add_block, add_block]; exact hab)).trans k1
        replace k2 : wr.cell? ⟨(a.add (k * 4)).block, (a.add (k * 4)).off + 2, none⟩ = some (.int .i64 x) := (HB.out.cell (p := (a.add (k * 4)).add 2) (by rw [add_block, add_block]; exact hab)).trans k2
        replace k3 : wr.cell? ⟨(a.add (k * 4)).block, (a.add (k * 4)).off + 3, none⟩ = some (.bool b) := (HB.out.cell (p := (a.add (k * 4)).add 3) (by rw [add_block, add_block]; exact hab)).trans k3
        have HLT := Lib.hid hlt
        have HBX := Lib.hid (hs.boxed (.cells #[.int .i64 kd, .int .i64 t, .int .i64 x, .bool b] 29))
        clear hs hI hlt
        by_cases q0 : kd = 0 ∨ kd = 1
        · obtain ⟨L1, x1, y1, e1, hr⟩ : ∃ L1 x1 y1 e1, readP L t = (L1, x1, y1, e1) := ⟨_, _, _, _, rfl⟩
          have hR := HBX.out.read ht
          rw [hr] at hR
          have HR := Lib.hid hR
          have HRP := Lib.hid hr
          clear hR hr
          rcases q0 with rfl | rfl
          · go_wp2_with fail
            refine (HR.out).mono ?_
            rintro e w2 ⟨rfl, hs2⟩
            have hbx := (hs2.box _ (List.mem_cons_self ..)).1
            have b1 := cell_of hbx 1
            simp at b1
            obtain ⟨g, hg⟩ : ∃ g, (ownP wrote t).getD got0 = g := ⟨_, rfl⟩
            obtain ⟨is, his⟩ : ∃ is, (ownP wrote t).isSome = is := ⟨_, rfl⟩
            have HOW := Lib.hid (own_any2 hs2.wt (Nat.le_trans hs2.lenW (by omega)) hg his)
            have HS2 := Lib.hid hs2
            have HG2 := Lib.hid hg
            have HI2 := Lib.hid his
            clear hs2 hbx hg his k0 k1 k2 k3 HR
            go_wp2_with fail
            refine (HOW.out).mono ?_
            rintro e w3 ⟨rfl, hb3⟩
            have hs3 := HS2.out.keep hb3
            have HS3 := Lib.hid (hs3.boxed (.cells #[.int .i64 g.at_, .int .i64 g.n, .bool g.there] 40))
            have hbx := (HS3.out.box _ (List.mem_cons_of_mem _ (List.mem_cons_self ..))).1
            have b1 := cell_of hbx 1
            simp at b1
            clear hs3 hb3 hbx HOW
            by_cases q1 : e1 = 0
            · have q1' : (e1 == 0) = true := by rw [q1]; rfl
              cases is with
              | false =>
                have hno : ownP wrote t = none := by
                  have := HI2.out
                  cases h : ownP wrote t with
                  | none => rfl
                  | some y => rw [h] at this; cases this
                have HI3 : Hid (Inv L1 wrote (got ++ [⟨t, x1, y1⟩])) := Lib.hid (by
                  have := HI1.out.read_other (t := t) (by rw [HRP.out]; exact q1) hno
                  rw [HRP.out] at this
                  exact this)
                obtain ⟨v1, w4, hr4, hrow4, ht4, ho4⟩ := app_got ⟨t, x1, y1⟩ 35 HS3.out.gt (Nat.le_trans HS3.out.lenG (by omega))
                rw [asz] at hr4
                have HS4 := Lib.hid ((HS3.out.drop.upto (Nat.le_succ k)).setG ht4 hrow4 ho4 (by rw [List.length_append]; have := HS3.out.lenG; simp; omega))
                clear hno q1 hrow4 ht4 ho4
                go_wp2_with (at_builtin; refine wpList_app_run rfl _ _ _ _ rfl rfl rfl hr4 ?_)
                go_roundw
                case rel => exact ⟨k + 1, _, _, _, HLT.out.1, HLT.out.2, by go_num, HS4.out, HI3.out⟩
                case measure => have := HLT.out; simp [intOf]; omega
              | true =>
                have hso : ownP wrote t = some g := by
                  have := HI2.out
                  have h3 := HG2.out
                  cases h : ownP wrote t with
                  | none => rw [h] at this; cases this
                  | some y => rw [h] at h3; exact congrArg some h3
                have hrr := HI1.out.read_own (t := t) (g := g) (by rw [HRP.out]; exact q1) hso
                rw [HRP.out] at hrr
                obtain ⟨r1, r2, r3⟩ := hrr
                have r1 : x1 = g.n := r1
                have r2 : y1 = g.there := r2
                subst r1 r2
                have HI3 : Hid (Inv L1 wrote got) := Lib.hid r3
                clear hso q1 r3
                go_wp2_with fail
                go_roundw
                case rel => exact ⟨k + 1, _, _, _, HLT.out.1, HLT.out.2, by go_num, HS3.out.drop.upto (Nat.le_succ k), HI3.out⟩
                case measure => have := HLT.out; simp [intOf]; omega
            · have q1' : (e1 == 0) = false := by rw [beq_eq_false_iff_ne]; exact q1
              have HI3 : Hid (Inv L1 wrote got) := Lib.hid (by
                have := HI1.out.read_err (t := t) (by rw [HRP.out]; exact q1)
                rw [HRP.out] at this
                exact this)
              clear q1
              go_wp2_with fail
              go_roundw
              case rel => exact ⟨k + 1, _, _, _, HLT.out.1, HLT.out.2, by go_num, HS3.out.drop.upto (Nat.le_succ k), HI3.out⟩
              case measure => have := HLT.out; simp [intOf]; omega
          · go_wp2_with fail
            refine (HR.out).mono ?_
            rintro e w2 ⟨rfl, hs2⟩
            have hbx := (hs2.box _ (List.mem_cons_self ..)).1
            have b1 := cell_of hbx 1
            simp at b1
            obtain ⟨g, hg⟩ : ∃ g, (ownP wrote t).getD got0 = g := ⟨_, rfl⟩
            obtain ⟨is, his⟩ : ∃ is, (ownP wrote t).isSome = is := ⟨_, rfl⟩
            have HOW := Lib.hid (own_any2 hs2.wt (Nat.le_trans hs2.lenW (by omega)) hg his)
            have HS2 := Lib.hid hs2
            have HG2 := Lib.hid hg
            have HI2 := Lib.hid his
            clear hs2 hbx hg his k0 k1 k2 k3 HR
            go_wp2_with fail
            refine (HOW.out).mono ?_
            rintro e w3 ⟨rfl, hb3⟩
            have hs3 := HS2.out.keep hb3
            have HS3 := Lib.hid (hs3.boxed (.cells #[.int .i64 g.at_, .int .i64 g.n, .bool g.there] 40))
            have hbx := (HS3.out.box _ (List.mem_cons_of_mem _ (List.mem_cons_self ..))).1
            have b1 := cell_of hbx 1
            simp at b1
            clear hs3 hb3 hbx HOW
            by_cases q1 : e1 = 0
            · have q1' : (e1 == 0) = true := by rw [q1]; rfl
              cases is with
              | false =>
                have hno : ownP wrote t = none := by
                  have := HI2.out
                  cases h : ownP wrote t with
                  | none => rfl
                  | some y => rw [h] at this; cases this
                have HI3 : Hid (Inv L1 wrote (got ++ [⟨t, x1, y1⟩])) := Lib.hid (by
                  have := HI1.out.read_other (t := t) (by rw [HRP.out]; exact q1) hno
                  rw [HRP.out] at this
                  exact this)
                obtain ⟨v1, w4, hr4, hrow4, ht4, ho4⟩ := app_got ⟨t, x1, y1⟩ 35 HS3.out.gt (Nat.le_trans HS3.out.lenG (by omega))
                rw [asz] at hr4
                have HS4 := Lib.hid ((HS3.out.drop.upto (Nat.le_succ k)).setG ht4 hrow4 ho4 (by rw [List.length_append]; have := HS3.out.lenG; simp; omega))
                clear hno q1 hrow4 ht4 ho4
                go_wp2_with (at_builtin; refine wpList_app_run rfl _ _ _ _ rfl rfl rfl hr4 ?_)
                go_roundw
                case rel => exact ⟨k + 1, _, _, _, HLT.out.1, HLT.out.2, by go_num, HS4.out, HI3.out⟩
                case measure => have := HLT.out; simp [intOf]; omega
              | true =>
                have hso : ownP wrote t = some g := by
                  have := HI2.out
                  have h3 := HG2.out
                  cases h : ownP wrote t with
                  | none => rw [h] at this; cases this
                  | some y => rw [h] at h3; exact congrArg some h3
                have hrr := HI1.out.read_own (t := t) (g := g) (by rw [HRP.out]; exact q1) hso
                rw [HRP.out] at hrr
                obtain ⟨r1, r2, r3⟩ := hrr
                have r1 : x1 = g.n := r1
                have r2 : y1 = g.there := r2
                subst r1 r2
                have HI3 : Hid (Inv L1 wrote got) := Lib.hid r3
                clear hso q1 r3
                go_wp2_with fail
                go_roundw
                case rel => exact ⟨k + 1, _, _, _, HLT.out.1, HLT.out.2, by go_num, HS3.out.drop.upto (Nat.le_succ k), HI3.out⟩
                case measure => have := HLT.out; simp [intOf]; omega
            · have q1' : (e1 == 0) = false := by rw [beq_eq_false_iff_ne]; exact q1
              have HI3 : Hid (Inv L1 wrote got) := Lib.hid (by
                have := HI1.out.read_err (t := t) (by rw [HRP.out]; exact q1)
                rw [HRP.out] at this
                exact this)
              clear q1
              go_wp2_with fail
              go_roundw
              case rel => exact ⟨k + 1, _, _, _, HLT.out.1, HLT.out.2, by go_num, HS3.out.drop.upto (Nat.le_succ k), HI3.out⟩
              case measure => have := HLT.out; simp [intOf]; omega
        · by_cases q2 : kd = 2 ∨ kd = 3
          · obtain ⟨L1, e1, hr⟩ : ∃ L1 e1, writeP L t x b = (L1, e1) := ⟨_, _, rfl⟩
            have hR := HBX.out.write (by omega) ht hx (th := b)
            rw [hr] at hR
            have HR := Lib.hid hR
            have HRP := Lib.hid hr
            clear hR hr q0
            rcases q2 with rfl | rfl
            · go_wp2_with fail
              refine (HR.out).mono ?_
              rintro e w2 ⟨rfl, hs2⟩
              have hbx := (hs2.box _ (List.mem_cons_self ..)).1
              have b1 := cell_of hbx 1
              have b2 := cell_of hbx 2
              have b3 := cell_of hbx 3
              simp at b1 b2 b3
              have HS2 := Lib.hid hs2
              clear hs2 hbx k0 k1 k2 k3 HR
              by_cases q1 : e1 = 0
              · have q1' : (e1 == 0) = true := by rw [q1]; rfl
                have HI3 : Hid (Inv L1 (withoutP wrote t ++ [⟨t, numT x b, b⟩]) got) := Lib.hid (by
                  have := HI1.out.write_ok (t := t) (n := x) (th := b) (by rw [HRP.out]; exact q1)
                  rw [HRP.out] at this
                  exact this)
                clear q1
                cases b with
                | true =>
                  have HS3 := Lib.hid (HS2.out.boxed (.cells #[.int .i64 t, .int .i64 x, .bool true] 40))
                  have hbx := (HS3.out.box _ (List.mem_cons_of_mem _ (List.mem_cons_self ..))).1
                  have hbw := (HS3.out.box _ (List.mem_cons_self ..)).1
                  have HSW : Hid (∀ W, Below (w2.alloc (.cells #[.int .i64 t, .int .i64 x, .bool true] 40)).heap.size (w2.alloc (.cells #[.int .i64 t, .int .i64 x, .bool true] 40)) W → S22 wr.heap.size w2.heap.size t x true W) := Lib.hid (fun W hW => ⟨(hW.cell (heap_lt hbx)).trans (cell_of hbx 1), (hW.cell (heap_lt hbw)).trans (cell_of hbw 0), (hW.cell (heap_lt hbw)).trans (cell_of hbw 1), (hW.cell (heap_lt hbw)).trans (cell_of hbw 2)⟩)
                  have HWO : Hid (∀ W, Below (w2.alloc (.cells #[.int .i64 t, .int .i64 x, .bool true] 40)).heap.size (w2.alloc (.cells #[.int .i64 t, .int .i64 x, .bool true] 40)) W → Calls Tryd.prog 17 #[u8, .int .i64 t] W fun e w' => ∃ v', e = .returned v' ∧ GIs w' v' (withoutP wrote t) ∧ (∀ b, v'.ownBlock = some b → W.heap.size ≤ b) ∧ Below W.heap.size W w') := Lib.hid (fun W hW => without_any (RowIs.below HS3.out.wt hW) (Nat.le_trans HS3.out.lenW (by omega)))
                  have hbx := ((HS2.out.boxed (.cells #[.int .i64 t, .int .i64 x, .bool true] 40)).box _ (List.mem_cons_of_mem _ (List.mem_cons_self ..))).1
                  have b3 := cell_of hbx 3
                  simp at b3
                  clear hbx hbw
                  go_upto_region 22 with fail
                  refine wp_only ?_
                  refine wp_region_held_drew (S := fun W => W.cell? ⟨wr.heap.size, 1, none⟩ = some (.int .i64 t) ∧ W.cell? ⟨w2.heap.size, 0, none⟩ = some (.int .i64 t) ∧ W.cell? ⟨w2.heap.size, 1, none⟩ = some (.int .i64 x) ∧ W.cell? ⟨w2.heap.size, 2, none⟩ = some (.bool true)) (by kernel_rfl) (HSW.out _ (below_drew (Below.refl _ _))) (fun hHeld => ?_)
                  refine wpAnyH_take (i := 0) (oi := { dst := some 109, op := Op.move (Operand.tmp 8), type := 35, pos := "law.go:139", after := #[], guard := none }) (v := ?vv1) rfl (by kernel_rfl) (by kernel_rfl) (by kernel_rfl) (fun _ _ _ h => h) ?hy1 (by assumption) ?rest1
                  case hy1 => (refine Or.inl ⟨by rfl, ?_⟩; intro W hSw; (try dsimp only at hSw); go_simp; (try with_reducible rfl))
                  try simp only [Act.put, List.setIfInBounds_toArray, List.set_cons_zero, List.set_cons_succ]
                  refine wpAnyH_take (i := 1) (oi := { dst := some 110, op := Op.fieldAddr 29 (Operand.tmp 11) 1, type := 0, pos := "law.go:139", after := #[], guard := none }) (v := ?vv2) rfl (by kernel_rfl) (by kernel_rfl) (by kernel_rfl) (fun _ _ _ h => h) ?hy2 (by assumption) ?rest2
                  case hy2 => (refine Or.inl ⟨by rfl, ?_⟩; intro W hSw; (try dsimp only at hSw); go_simp; (try with_reducible rfl))
                  try simp only [Act.put, List.setIfInBounds_toArray, List.set_cons_zero, List.set_cons_succ]
                  refine wpAnyH_take (i := 2) (oi := { dst := some 111, op := Op.load 3 (Operand.tmp 110), type := 3, pos := "law.go:139", after := #[{ on := 1, ground := Ground.data }], guard := none }) (v := ?vv3) rfl (by kernel_rfl) (by kernel_rfl) (by kernel_rfl) (fun _ _ _ h => h) ?hy3 (by assumption) ?rest3
                  case hy3 => (refine Or.inl ⟨by rfl, ?_⟩; intro W hSw; (try dsimp only at hSw); go_simp; (try with_reducible rfl))
                  try simp only [Act.put, List.setIfInBounds_toArray, List.set_cons_zero, List.set_cons_succ]
                  refine wpAnyH_take (i := 4) (oi := { dst := some 113, op := Op.load 40 (Operand.tmp 17), type := 40, pos := "law.go:139", after := #[], guard := none }) (v := ?vv4) rfl (by kernel_rfl) (by kernel_rfl) (by kernel_rfl) (fun _ _ _ h => h) ?hy4 (by assumption) ?rest4
                  case hy4 => (refine Or.inl ⟨by rfl, ?_⟩; intro W hSw; (try dsimp only at hSw); go_simp; (try with_reducible rfl))
                  try simp only [Act.put, List.setIfInBounds_toArray, List.set_cons_zero, List.set_cons_succ]
                  refine wpAnyH_ready (rs := [3, 5]) (by kernel_rfl) (by simp) ?_
                  refine AllReadyH.cons (o := { dst := some 112, op := Op.call { callee := Callee.value (Operand.func 17), args := #[Operand.tmp 109, Operand.tmp 111], argTypes := #[35, 3] }, type := 35, pos := "law.go:139", after := #[{ on := 0, ground := Ground.data }, { on := 2, ground := Ground.data }], guard := none }) rfl (fun K hK => ?step5) ?more5
                  ((go_simp; go_at_call 17; refine (HWO.out _ (below_drew (Below.refl _ _))).mono ?_; rintro e w4 ⟨v4, rfl, hv4, hw4, hb4⟩; go_wp2_with fail))
                  refine hK.out _ _ ?hS5 (fun hHeld => ?rr5)
                  case hS5 => (exact HSW.out _ ((below_drew (Below.refl _ _)).trans hb4))
                  clear hK K
                  try simp only [Act.put, List.setIfInBounds_toArray, List.set_cons_zero, List.set_cons_succ]
                  · have hb5 : Below (w2.alloc (.cells #[.int .i64 t, .int .i64 x, .bool true] 40)).heap.size (w2.alloc (.cells #[.int .i64 t, .int .i64 x, .bool true] 40)) w4 := (below_drew (Below.refl _ _)).trans hb4
                    have HB5 := Lib.hid hb5
                    have HV4 := Lib.hid hv4
                    have HW4 := Lib.hid hw4
                    clear hv4 hw4 hb4 hb5
                    refine wpAnyH_ready (rs := [5]) (by kernel_rfl) (by simp) ?_
                    refine AllReadyH.cons (o := { dst := some 114, op := Op.buildSlice 35 1 #[(0, Operand.tmp 113)], type := 35, pos := "law.go:139", after := #[{ on := 4, ground := Ground.data }], guard := none }) rfl (fun K hK => ?step6) ?more6
                    case more6 => exact AllReadyH.nil
                    ((go_simp; go_wp2_with fail))
                    refine hK.out _ _ ?hS6 (fun hHeld => ?rr6)
                    case hS6 => (exact HSW.out _ (HB5.out.trans ((below_new _).mono HB5.out.size)))
                    clear hK K
                    try simp only [Act.put, List.setIfInBounds_toArray, List.set_cons_zero, List.set_cons_succ]
                    obtain ⟨v5, w5, hr5, hv5, ht5, ho5⟩ := app_gotS ⟨t, x, true⟩ 35 (RowIs.below HV4.out (below_new (.cells #[.int .i64 t, .int .i64 x, .bool true] 40))) (Nat.le_trans (without_len _ _) (Nat.le_trans HS3.out.lenW (by omega))) (alloc_at w4 _)
                    have hbn := HB5.out.trans ((below_new (w := w4) (.cells #[.int .i64 t, .int .i64 x, .bool true] 40)).mono HB5.out.size)
                    have HBF := Lib.hid (hbn.trans (ht5.below (fun i e => HW4.out i e) hbn.size))
                    have HR5 := Lib.hid hr5
                    have HF := Lib.hid (HS3.out.drop.setW HBF.out hv5 (fun i e => by
                      rcases ho5 i e with e2 | e2
                      · exact HW4.out i e2
                      · have := hbn.size
                        omega) (by
                      have := without_len wrote t
                      have := HS1.out.lenW
                      rw [List.length_append]; simp; omega))
                    clear hv5 ht5 ho5 hr5 hbn
                    refine wpAnyH_ready (rs := [6]) (by kernel_rfl) (by simp) ?_
                    refine AllReadyH.cons (o := { dst := some 115, op := Op.call { callee := Callee.builtin Builtin.append, args := #[Operand.tmp 112, Operand.tmp 114], argTypes := #[35, 35] }, type := 35, pos := "law.go:139", after := #[{ on := 3, ground := Ground.data }, { on := 5, ground := Ground.data }, { on := 3, ground := Ground.chain }], guard := none }) rfl (fun K hK => ?step7) ?more7
                    case more7 => exact AllReadyH.nil
                    ((refine oper_app_run _ _ _ _ rfl rfl rfl HR5.out ?_ (by kernel_rfl)))
                    refine hK.out _ _ ?hS7 (fun hHeld => ?rr7)
                    case hS7 => (exact HSW.out _ HBF.out)
                    clear hK K
                    try simp only [Act.put, List.setIfInBounds_toArray, List.set_cons_zero, List.set_cons_succ]
                    refine wpAnyH_take (i := 7) (oi := { dst := some 8, op := Op.assign (Operand.tmp 115), type := 35, pos := "law.go:139", after := #[{ on := 6, ground := Ground.data }, { on := 6, ground := Ground.chain }, { on := 0, ground := Ground.phase }, { on := 1, ground := Ground.phase }, { on := 2, ground := Ground.phase }, { on := 3, ground := Ground.phase }, { on := 4, ground := Ground.phase }, { on := 5, ground := Ground.phase }, { on := 6, ground := Ground.phase }], guard := none }) (v := ?vv8) rfl (by kernel_rfl) (by kernel_rfl) (by kernel_rfl) (fun _ _ _ h => h) ?hy8 (by assumption) ?rest8
                    case hy8 => (refine Or.inl ⟨by rfl, ?_⟩; intro W hSw; (try dsimp only at hSw); go_simp; (try with_reducible rfl))
                    try simp only [Act.put, List.setIfInBounds_toArray, List.set_cons_zero, List.set_cons_succ]
                    refine wpAnyH_done (by kernel_rfl) ?_ _
                    clear hHeld
                    dsimp only [onlyN]
                    go_wp2_with fail
                    go_roundw
                    case rel => exact ⟨k + 1, _, _, _, HLT.out.1, HLT.out.2, by go_num, HF.out, HI3.out⟩
                    case measure => have := HLT.out; simp [intOf]; omega
                  · have hbA : Below (w2.alloc (.cells #[.int .i64 t, .int .i64 x, .bool true] 40)).heap.size (w2.alloc (.cells #[.int .i64 t, .int .i64 x, .bool true] 40)) ((w2.alloc (.cells #[.int .i64 t, .int .i64 x, .bool true] 40)).drew.alloc (.cells #[.int .i64 t, .int .i64 x, .bool true] 40)) := (below_drew (Below.refl (w2.alloc (.cells #[.int .i64 t, .int .i64 x, .bool true] 40)).heap.size (w2.alloc (.cells #[.int .i64 t, .int .i64 x, .bool true] 40)))).trans (below_new (w := (w2.alloc (.cells #[.int .i64 t, .int .i64 x, .bool true] 40)).drew) (.cells #[.int .i64 t, .int .i64 x, .bool true] 40))
                    have hat := alloc_at (w2.alloc (.cells #[.int .i64 t, .int .i64 x, .bool true] 40)).drew (.cells #[.int .i64 t, .int .i64 x, .bool true] 40)
                    have HBA := Lib.hid hbA
                    have HAT := Lib.hid hat
                    clear hbA hat
                    refine AllReadyH.cons (o := { dst := some 114, op := Op.buildSlice 35 1 #[(0, Operand.tmp 113)], type := 35, pos := "law.go:139", after := #[{ on := 4, ground := Ground.data }], guard := none }) rfl (fun K hK => ?step9) ?more9
                    case more9 => exact AllReadyH.nil
                    ((go_simp; go_wp2_with fail))
                    refine hK.out _ _ ?hS9 (fun hHeld => ?rr9)
                    case hS9 => (exact HSW.out _ HBA.out)
                    clear hK K
                    try simp only [Act.put, List.setIfInBounds_toArray, List.set_cons_zero, List.set_cons_succ]
                    refine wpAnyH_ready (rs := [3]) (by kernel_rfl) (by simp) ?_
                    refine AllReadyH.cons (o := { dst := some 112, op := Op.call { callee := Callee.value (Operand.func 17), args := #[Operand.tmp 109, Operand.tmp 111], argTypes := #[35, 3] }, type := 35, pos := "law.go:139", after := #[{ on := 0, ground := Ground.data }, { on := 2, ground := Ground.data }], guard := none }) rfl (fun K hK => ?step10) ?more10
                    case more10 => exact AllReadyH.nil
                    ((go_simp; go_at_call 17; refine (HWO.out _ HBA.out).mono ?_; rintro e w4 ⟨v4, rfl, hv4, hw4, hb4⟩; go_wp2_with fail))
                    refine hK.out _ _ ?hS10 (fun hHeld => ?rr10)
                    case hS10 => (exact HSW.out _ (HBA.out.trans (hb4.mono HBA.out.size)))
                    clear hK K
                    try simp only [Act.put, List.setIfInBounds_toArray, List.set_cons_zero, List.set_cons_succ]
                    have HB5 := Lib.hid (HBA.out.trans (hb4.mono HBA.out.size))
                    have hat4 := (hb4.block _ (heap_lt HAT.out)).trans HAT.out
                    obtain ⟨v5, w5, hr5, hv5, ht5, ho5⟩ := app_gotS ⟨t, x, true⟩ 35 hv4 (Nat.le_trans (without_len _ _) (Nat.le_trans HS3.out.lenW (by omega))) hat4
                    have hbz := HBA.out.size
                    have HBF := Lib.hid (HB5.out.trans (ht5.below (fun i e => Nat.le_trans hbz (hw4 i e)) HB5.out.size))
                    have hr5 : (Builtin.append_ #[35, 35] 35 #[v4, .slice (some ⟨w2.heap.size + 1, 0, none⟩) 1 1]).run Tryd.prog w4 = .ok v5 w5 := by
                      have e : (w2.alloc (.cells #[.int .i64 t, .int .i64 x, .bool true] 40)).drew.heap.size = w2.heap.size + 1 := asz _ _
                      rw [e] at hr5
                      exact hr5
                    have HR5 := Lib.hid hr5
                    have HF := Lib.hid (HS3.out.drop.setW HBF.out hv5 (fun i e => by
                      rcases ho5 i e with e2 | e2
                      · exact Nat.le_trans hbz (hw4 i e2)
                      · have := HB5.out.size
                        omega) (by
                      have := without_len wrote t
                      have := HS1.out.lenW
                      rw [List.length_append]; simp; omega))
                    clear hv5 ht5 ho5 hr5 hbz hat4 hv4 hw4 hb4
                    refine wpAnyH_ready (rs := [6]) (by kernel_rfl) (by simp) ?_
                    refine AllReadyH.cons (o := { dst := some 115, op := Op.call { callee := Callee.builtin Builtin.append, args := #[Operand.tmp 112, Operand.tmp 114], argTypes := #[35, 35] }, type := 35, pos := "law.go:139", after := #[{ on := 3, ground := Ground.data }, { on := 5, ground := Ground.data }, { on := 3, ground := Ground.chain }], guard := none }) rfl (fun K hK => ?step11) ?more11
                    case more11 => exact AllReadyH.nil
                    ((refine oper_app_run _ _ _ _ rfl rfl rfl HR5.out ?_ (by kernel_rfl)))
                    refine hK.out _ _ ?hS11 (fun hHeld => ?rr11)
                    case hS11 => (exact HSW.out _ HBF.out)
                    clear hK K
                    try simp only [Act.put, List.setIfInBounds_toArray, List.set_cons_zero, List.set_cons_succ]
                    refine wpAnyH_take (i := 7) (oi := { dst := some 8, op := Op.assign (Operand.tmp 115), type := 35, pos := "law.go:139", after := #[{ on := 6, ground := Ground.data }, { on := 6, ground := Ground.chain }, { on := 0, ground := Ground.phase }, { on := 1, ground := Ground.phase }, { on := 2, ground := Ground.phase }, { on := 3, ground := Ground.phase }, { on := 4, ground := Ground.phase }, { on := 5, ground := Ground.phase }, { on := 6, ground := Ground.phase }], guard := none }) (v := ?vv12) rfl (by kernel_rfl) (by kernel_rfl) (by kernel_rfl) (fun _ _ _ h => h) ?hy12 (by assumption) ?rest12
                    case hy12 => (refine Or.inl ⟨by rfl, ?_⟩; intro W hSw; (try dsimp only at hSw); go_simp; (try with_reducible rfl))
                    try simp only [Act.put, List.setIfInBounds_toArray, List.set_cons_zero, List.set_cons_succ]
                    refine wpAnyH_done (by kernel_rfl) ?_ _
                    clear hHeld
                    dsimp only [onlyN]
                    go_wp2_with fail
                    go_roundw
                    case rel => exact ⟨k + 1, _, _, _, HLT.out.1, HLT.out.2, by go_num, HF.out, HI3.out⟩
                    case measure => have := HLT.out; simp [intOf]; omega
                | false =>
                  have HS3 := Lib.hid (HS2.out.boxed (.cells #[.int .i64 t, .int .i64 0, .bool false] 40))
                  have hbx := (HS3.out.box _ (List.mem_cons_of_mem _ (List.mem_cons_self ..))).1
                  have hbw := (HS3.out.box _ (List.mem_cons_self ..)).1
                  have HSW : Hid (∀ W, Below (w2.alloc (.cells #[.int .i64 t, .int .i64 0, .bool false] 40)).heap.size (w2.alloc (.cells #[.int .i64 t, .int .i64 0, .bool false] 40)) W → S22 wr.heap.size w2.heap.size t 0 false W) := Lib.hid (fun W hW => ⟨(hW.cell (heap_lt hbx)).trans (cell_of hbx 1), (hW.cell (heap_lt hbw)).trans (cell_of hbw 0), (hW.cell (heap_lt hbw)).trans (cell_of hbw 1), (hW.cell (heap_lt hbw)).trans (cell_of hbw 2)⟩)
                  have HWO : Hid (∀ W, Below (w2.alloc (.cells #[.int .i64 t, .int .i64 0, .bool false] 40)).heap.size (w2.alloc (.cells #[.int .i64 t, .int .i64 0, .bool false] 40)) W → Calls Tryd.prog 17 #[u8, .int .i64 t] W fun e w' => ∃ v', e = .returned v' ∧ GIs w' v' (withoutP wrote t) ∧ (∀ b, v'.ownBlock = some b → W.heap.size ≤ b) ∧ Below W.heap.size W w') := Lib.hid (fun W hW => without_any (RowIs.below HS3.out.wt hW) (Nat.le_trans HS3.out.lenW (by omega)))
                  have hbx := ((HS2.out.boxed (.cells #[.int .i64 t, .int .i64 x, .bool false] 40)).box _ (List.mem_cons_of_mem _ (List.mem_cons_self ..))).1
                  have b3 := cell_of hbx 3
                  simp at b3
                  clear hbx hbw
                  go_upto_region 22 with fail
                  refine wp_only ?_
                  refine wp_region_held_drew (S := fun W => W.cell? ⟨wr.heap.size, 1, none⟩ = some (.int .i64 t) ∧ W.cell? ⟨w2.heap.size, 0, none⟩ = some (.int .i64 t) ∧ W.cell? ⟨w2.heap.size, 1, none⟩ = some (.int .i64 0) ∧ W.cell? ⟨w2.heap.size, 2, none⟩ = some (.bool false)) (by kernel_rfl) (HSW.out _ (below_drew (Below.refl _ _))) (fun hHeld => ?_)
                  refine wpAnyH_take (i := 0) (oi := { dst := some 109, op := Op.move (Operand.tmp 8), type := 35, pos := "law.go:139", after := #[], guard := none }) (v := ?vv13) rfl (by kernel_rfl) (by kernel_rfl) (by kernel_rfl) (fun _ _ _ h => h) ?hy13 (by assumption) ?rest13
                  case hy13 => (refine Or.inl ⟨by rfl, ?_⟩; intro W hSw; (try dsimp only at hSw); go_simp; (try with_reducible rfl))
                  try simp only [Act.put, List.setIfInBounds_toArray, List.set_cons_zero, List.set_cons_succ]
                  refine wpAnyH_take (i := 1) (oi := { dst := some 110, op := Op.fieldAddr 29 (Operand.tmp 11) 1, type := 0, pos := "law.go:139", after := #[], guard := none }) (v := ?vv14) rfl (by kernel_rfl) (by kernel_rfl) (by kernel_rfl) (fun _ _ _ h => h) ?hy14 (by assumption) ?rest14
                  case hy14 => (refine Or.inl ⟨by rfl, ?_⟩; intro W hSw; (try dsimp only at hSw); go_simp; (try with_reducible rfl))
                  try simp only [Act.put, List.setIfInBounds_toArray, List.set_cons_zero, List.set_cons_succ]
                  refine wpAnyH_take (i := 2) (oi := { dst := some 111, op := Op.load 3 (Operand.tmp 110), type := 3, pos := "law.go:139", after := #[{ on := 1, ground := Ground.data }], guard := none }) (v := ?vv15) rfl (by kernel_rfl) (by kernel_rfl) (by kernel_rfl) (fun _ _ _ h => h) ?hy15 (by assumption) ?rest15
                  case hy15 => (refine Or.inl ⟨by rfl, ?_⟩; intro W hSw; (try dsimp only at hSw); go_simp; (try with_reducible rfl))
                  try simp only [Act.put, List.setIfInBounds_toArray, List.set_cons_zero, List.set_cons_succ]
                  refine wpAnyH_take (i := 4) (oi := { dst := some 113, op := Op.load 40 (Operand.tmp 17), type := 40, pos := "law.go:139", after := #[], guard := none }) (v := ?vv16) rfl (by kernel_rfl) (by kernel_rfl) (by kernel_rfl) (fun _ _ _ h => h) ?hy16 (by assumption) ?rest16
                  case hy16 => (refine Or.inl ⟨by rfl, ?_⟩; intro W hSw; (try dsimp only at hSw); go_simp; (try with_reducible rfl))
                  try simp only [Act.put, List.setIfInBounds_toArray, List.set_cons_zero, List.set_cons_succ]
                  refine wpAnyH_ready (rs := [3, 5]) (by kernel_rfl) (by simp) ?_
                  refine AllReadyH.cons (o := { dst := some 112, op := Op.call { callee := Callee.value (Operand.func 17), args := #[Operand.tmp 109, Operand.tmp 111], argTypes := #[35, 3] }, type := 35, pos := "law.go:139", after := #[{ on := 0, ground := Ground.data }, { on := 2, ground := Ground.data }], guard := none }) rfl (fun K hK => ?step17) ?more17
                  ((go_simp; go_at_call 17; refine (HWO.out _ (below_drew (Below.refl _ _))).mono ?_; rintro e w4 ⟨v4, rfl, hv4, hw4, hb4⟩; go_wp2_with fail))
                  refine hK.out _ _ ?hS17 (fun hHeld => ?rr17)
                  case hS17 => (exact HSW.out _ ((below_drew (Below.refl _ _)).trans hb4))
                  clear hK K
                  try simp only [Act.put, List.setIfInBounds_toArray, List.set_cons_zero, List.set_cons_succ]
                  · have hb5 : Below (w2.alloc (.cells #[.int .i64 t, .int .i64 0, .bool false] 40)).heap.size (w2.alloc (.cells #[.int .i64 t, .int .i64 0, .bool false] 40)) w4 := (below_drew (Below.refl _ _)).trans hb4
                    have HB5 := Lib.hid hb5
                    have HV4 := Lib.hid hv4
                    have HW4 := Lib.hid hw4
                    clear hv4 hw4 hb4 hb5
                    refine wpAnyH_ready (rs := [5]) (by kernel_rfl) (by simp) ?_
                    refine AllReadyH.cons (o := { dst := some 114, op := Op.buildSlice 35 1 #[(0, Operand.tmp 113)], type := 35, pos := "law.go:139", after := #[{ on := 4, ground := Ground.data }], guard := none }) rfl (fun K hK => ?step18) ?more18
                    case more18 => exact AllReadyH.nil
                    ((go_simp; go_wp2_with fail))
                    refine hK.out _ _ ?hS18 (fun hHeld => ?rr18)
                    case hS18 => (exact HSW.out _ (HB5.out.trans ((below_new _).mono HB5.out.size)))
                    clear hK K
                    try simp only [Act.put, List.setIfInBounds_toArray, List.set_cons_zero, List.set_cons_succ]
                    obtain ⟨v5, w5, hr5, hv5, ht5, ho5⟩ := app_gotS ⟨t, 0, false⟩ 35 (RowIs.below HV4.out (below_new (.cells #[.int .i64 t, .int .i64 0, .bool false] 40))) (Nat.le_trans (without_len _ _) (Nat.le_trans HS3.out.lenW (by omega))) (alloc_at w4 _)
                    have hbn := HB5.out.trans ((below_new (w := w4) (.cells #[.int .i64 t, .int .i64 0, .bool false] 40)).mono HB5.out.size)
                    have HBF := Lib.hid (hbn.trans (ht5.below (fun i e => HW4.out i e) hbn.size))
                    have HR5 := Lib.hid hr5
                    have HF := Lib.hid (HS3.out.drop.setW HBF.out hv5 (fun i e => by
                      rcases ho5 i e with e2 | e2
                      · exact HW4.out i e2
                      · have := hbn.size
                        omega) (by
                      have := without_len wrote t
                      have := HS1.out.lenW
                      rw [List.length_append]; simp; omega))
                    clear hv5 ht5 ho5 hr5 hbn
                    refine wpAnyH_ready (rs := [6]) (by kernel_rfl) (by simp) ?_
                    refine AllReadyH.cons (o := { dst := some 115, op := Op.call { callee := Callee.builtin Builtin.append, args := #[Operand.tmp 112, Operand.tmp 114], argTypes := #[35, 35] }, type := 35, pos := "law.go:139", after := #[{ on := 3, ground := Ground.data }, { on := 5, ground := Ground.data }, { on := 3, ground := Ground.chain }], guard := none }) rfl (fun K hK => ?step19) ?more19
                    case more19 => exact AllReadyH.nil
                    ((refine oper_app_run _ _ _ _ rfl rfl rfl HR5.out ?_ (by kernel_rfl)))
                    refine hK.out _ _ ?hS19 (fun hHeld => ?rr19)
                    case hS19 => (exact HSW.out _ HBF.out)
                    clear hK K
                    try simp only [Act.put, List.setIfInBounds_toArray, List.set_cons_zero, List.set_cons_succ]
                    refine wpAnyH_take (i := 7) (oi := { dst := some 8, op := Op.assign (Operand.tmp 115), type := 35, pos := "law.go:139", after := #[{ on := 6, ground := Ground.data }, { on := 6, ground := Ground.chain }, { on := 0, ground := Ground.phase }, { on := 1, ground := Ground.phase }, { on := 2, ground := Ground.phase }, { on := 3, ground := Ground.phase }, { on := 4, ground := Ground.phase }, { on := 5, ground := Ground.phase }, { on := 6, ground := Ground.phase }], guard := none }) (v := ?vv20) rfl (by kernel_rfl) (by kernel_rfl) (by kernel_rfl) (fun _ _ _ h => h) ?hy20 (by assumption) ?rest20
                    case hy20 => (refine Or.inl ⟨by rfl, ?_⟩; intro W hSw; (try dsimp only at hSw); go_simp; (try with_reducible rfl))
                    try simp only [Act.put, List.setIfInBounds_toArray, List.set_cons_zero, List.set_cons_succ]
                    refine wpAnyH_done (by kernel_rfl) ?_ _
                    clear hHeld
                    dsimp only [onlyN]
                    go_wp2_with fail
                    go_roundw
                    case rel => exact ⟨k + 1, _, _, _, HLT.out.1, HLT.out.2, by go_num, HF.out, HI3.out⟩
                    case measure => have := HLT.out; simp [intOf]; omega
                  · have hbA : Below (w2.alloc (.cells #[.int .i64 t, .int .i64 0, .bool false] 40)).heap.size (w2.alloc (.cells #[.int .i64 t, .int .i64 0, .bool false] 40)) ((w2.alloc (.cells #[.int .i64 t, .int .i64 0, .bool false] 40)).drew.alloc (.cells #[.int .i64 t, .int .i64 0, .bool false] 40)) := (below_drew (Below.refl (w2.alloc (.cells #[.int .i64 t, .int .i64 0, .bool false] 40)).heap.size (w2.alloc (.cells #[.int .i64 t, .int .i64 0, .bool false] 40)))).trans (below_new (w := (w2.alloc (.cells #[.int .i64 t, .int .i64 0, .bool false] 40)).drew) (.cells #[.int .i64 t, .int .i64 0, .bool false] 40))
                    have hat := alloc_at (w2.alloc (.cells #[.int .i64 t, .int .i64 0, .bool false] 40)).drew (.cells #[.int .i64 t, .int .i64 0, .bool false] 40)
                    have HBA := Lib.hid hbA
                    have HAT := Lib.hid hat
                    clear hbA hat
                    refine AllReadyH.cons (o := { dst := some 114, op := Op.buildSlice 35 1 #[(0, Operand.tmp 113)], type := 35, pos := "law.go:139", after := #[{ on := 4, ground := Ground.data }], guard := none }) rfl (fun K hK => ?step21) ?more21
                    case more21 => exact AllReadyH.nil
                    ((go_simp; go_wp2_with fail))
                    refine hK.out _ _ ?hS21 (fun hHeld => ?rr21)
                    case hS21 => (exact HSW.out _ HBA.out)
                    clear hK K
                    try simp only [Act.put, List.setIfInBounds_toArray, List.set_cons_zero, List.set_cons_succ]
                    refine wpAnyH_ready (rs := [3]) (by kernel_rfl) (by simp) ?_
                    refine AllReadyH.cons (o := { dst := some 112, op := Op.call { callee := Callee.value (Operand.func 17), args := #[Operand.tmp 109, Operand.tmp 111], argTypes := #[35, 3] }, type := 35, pos := "law.go:139", after := #[{ on := 0, ground := Ground.data }, { on := 2, ground := Ground.data }], guard := none }) rfl (fun K hK => ?step22) ?more22
                    case more22 => exact AllReadyH.nil
                    ((go_simp; go_at_call 17; refine (HWO.out _ HBA.out).mono ?_; rintro e w4 ⟨v4, rfl, hv4, hw4, hb4⟩; go_wp2_with fail))
                    refine hK.out _ _ ?hS22 (fun hHeld => ?rr22)
                    case hS22 => (exact HSW.out _ (HBA.out.trans (hb4.mono HBA.out.size)))
                    clear hK K
                    try simp only [Act.put, List.setIfInBounds_toArray, List.set_cons_zero, List.set_cons_succ]
                    have HB5 := Lib.hid (HBA.out.trans (hb4.mono HBA.out.size))
                    have hat4 := (hb4.block _ (heap_lt HAT.out)).trans HAT.out
                    obtain ⟨v5, w5, hr5, hv5, ht5, ho5⟩ := app_gotS ⟨t, 0, false⟩ 35 hv4 (Nat.le_trans (without_len _ _) (Nat.le_trans HS3.out.lenW (by omega))) hat4
                    have hbz := HBA.out.size
                    have HBF := Lib.hid (HB5.out.trans (ht5.below (fun i e => Nat.le_trans hbz (hw4 i e)) HB5.out.size))
                    have hr5 : (Builtin.append_ #[35, 35] 35 #[v4, .slice (some ⟨w2.heap.size + 1, 0, none⟩) 1 1]).run Tryd.prog w4 = .ok v5 w5 := by
                      have e : (w2.alloc (.cells #[.int .i64 t, .int .i64 0, .bool false] 40)).drew.heap.size = w2.heap.size + 1 := asz _ _
                      rw [e] at hr5
                      exact hr5
                    have HR5 := Lib.hid hr5
                    have HF := Lib.hid (HS3.out.drop.setW HBF.out hv5 (fun i e => by
                      rcases ho5 i e with e2 | e2
                      · exact Nat.le_trans hbz (hw4 i e2)
                      · have := HB5.out.size
                        omega) (by
                      have := without_len wrote t
                      have := HS1.out.lenW
                      rw [List.length_append]; simp; omega))
                    clear hv5 ht5 ho5 hr5 hbz hat4 hv4 hw4 hb4
                    refine wpAnyH_ready (rs := [6]) (by kernel_rfl) (by simp) ?_
                    refine AllReadyH.cons (o := { dst := some 115, op := Op.call { callee := Callee.builtin Builtin.append, args := #[Operand.tmp 112, Operand.tmp 114], argTypes := #[35, 35] }, type := 35, pos := "law.go:139", after := #[{ on := 3, ground := Ground.data }, { on := 5, ground := Ground.data }, { on := 3, ground := Ground.chain }], guard := none }) rfl (fun K hK => ?step23) ?more23
                    case more23 => exact AllReadyH.nil
                    ((refine oper_app_run _ _ _ _ rfl rfl rfl HR5.out ?_ (by kernel_rfl)))
                    refine hK.out _ _ ?hS23 (fun hHeld => ?rr23)
                    case hS23 => (exact HSW.out _ HBF.out)
                    clear hK K
                    try simp only [Act.put, List.setIfInBounds_toArray, List.set_cons_zero, List.set_cons_succ]
                    refine wpAnyH_take (i := 7) (oi := { dst := some 8, op := Op.assign (Operand.tmp 115), type := 35, pos := "law.go:139", after := #[{ on := 6, ground := Ground.data }, { on := 6, ground := Ground.chain }, { on := 0, ground := Ground.phase }, { on := 1, ground := Ground.phase }, { on := 2, ground := Ground.phase }, { on := 3, ground := Ground.phase }, { on := 4, ground := Ground.phase }, { on := 5, ground := Ground.phase }, { on := 6, ground := Ground.phase }], guard := none }) (v := ?vv24) rfl (by kernel_rfl) (by kernel_rfl) (by kernel_rfl) (fun _ _ _ h => h) ?hy24 (by assumption) ?rest24
                    case hy24 => (refine Or.inl ⟨by rfl, ?_⟩; intro W hSw; (try dsimp only at hSw); go_simp; (try with_reducible rfl))
                    try simp only [Act.put, List.setIfInBounds_toArray, List.set_cons_zero, List.set_cons_succ]
                    refine wpAnyH_done (by kernel_rfl) ?_ _
                    clear hHeld
                    dsimp only [onlyN]
                    go_wp2_with fail
                    go_roundw
                    case rel => exact ⟨k + 1, _, _, _, HLT.out.1, HLT.out.2, by go_num, HF.out, HI3.out⟩
                    case measure => have := HLT.out; simp [intOf]; omega
              · have q1' : (e1 == 0) = false := by rw [beq_eq_false_iff_ne]; exact q1
                have HI3 : Hid (Inv L1 wrote got) := Lib.hid (by
                  have := HI1.out.write_err (t := t) (n := x) (th := b) (by rw [HRP.out]; exact q1)
                  rw [HRP.out] at this
                  exact this)
                clear q1
                go_wp2_with fail
                go_roundw
                case rel => exact ⟨k + 1, _, _, _, HLT.out.1, HLT.out.2, by go_num, HS2.out.drop, HI3.out⟩
                case measure => have := HLT.out; simp [intOf]; omega
            · go_wp2_with fail
              refine (HR.out).mono ?_
              rintro e w2 ⟨rfl, hs2⟩
              have hbx := (hs2.box _ (List.mem_cons_self ..)).1
              have b1 := cell_of hbx 1
              have b2 := cell_of hbx 2
              have b3 := cell_of hbx 3
              simp at b1 b2 b3
              have HS2 := Lib.hid hs2
              clear hs2 hbx k0 k1 k2 k3 HR
              by_cases q1 : e1 = 0
              · have q1' : (e1 == 0) = true := by rw [q1]; rfl
                have HI3 : Hid (Inv L1 (withoutP wrote t ++ [⟨t, numT x b, b⟩]) got) := Lib.hid (by
                  have := HI1.out.write_ok (t := t) (n := x) (th := b) (by rw [HRP.out]; exact q1)
                  rw [HRP.out] at this
                  exact this)
                clear q1
                cases b with
                | true =>
                  have HS3 := Lib.hid (HS2.out.boxed (.cells #[.int .i64 t, .int .i64 x, .bool true] 40))
                  have hbx := (HS3.out.box _ (List.mem_cons_of_mem _ (List.mem_cons_self ..))).1
                  have hbw := (HS3.out.box _ (List.mem_cons_self ..)).1
                  have HSW : Hid (∀ W, Below (w2.alloc (.cells #[.int .i64 t, .int .i64 x, .bool true] 40)).heap.size (w2.alloc (.cells #[.int .i64 t, .int .i64 x, .bool true] 40)) W → S22 wr.heap.size w2.heap.size t x true W) := Lib.hid (fun W hW => ⟨(hW.cell (heap_lt hbx)).trans (cell_of hbx 1), (hW.cell (heap_lt hbw)).trans (cell_of hbw 0), (hW.cell (heap_lt hbw)).trans (cell_of hbw 1), (hW.cell (heap_lt hbw)).trans (cell_of hbw 2)⟩)
                  have HWO : Hid (∀ W, Below (w2.alloc (.cells #[.int .i64 t, .int .i64 x, .bool true] 40)).heap.size (w2.alloc (.cells #[.int .i64 t, .int .i64 x, .bool true] 40)) W → Calls Tryd.prog 17 #[u8, .int .i64 t] W fun e w' => ∃ v', e = .returned v' ∧ GIs w' v' (withoutP wrote t) ∧ (∀ b, v'.ownBlock = some b → W.heap.size ≤ b) ∧ Below W.heap.size W w') := Lib.hid (fun W hW => without_any (RowIs.below HS3.out.wt hW) (Nat.le_trans HS3.out.lenW (by omega)))
                  have hbx := ((HS2.out.boxed (.cells #[.int .i64 t, .int .i64 x, .bool true] 40)).box _ (List.mem_cons_of_mem _ (List.mem_cons_self ..))).1
                  have b3 := cell_of hbx 3
                  simp at b3
                  clear hbx hbw
                  go_upto_region 22 with fail
                  refine wp_only ?_
                  refine wp_region_held_drew (S := fun W => W.cell? ⟨wr.heap.size, 1, none⟩ = some (.int .i64 t) ∧ W.cell? ⟨w2.heap.size, 0, none⟩ = some (.int .i64 t) ∧ W.cell? ⟨w2.heap.size, 1, none⟩ = some (.int .i64 x) ∧ W.cell? ⟨w2.heap.size, 2, none⟩ = some (.bool true)) (by kernel_rfl) (HSW.out _ (below_drew (Below.refl _ _))) (fun hHeld => ?_)
                  refine wpAnyH_take (i := 0) (oi := { dst := some 109, op := Op.move (Operand.tmp 8), type := 35, pos := "law.go:139", after := #[], guard := none }) (v := ?vv25) rfl (by kernel_rfl) (by kernel_rfl) (by kernel_rfl) (fun _ _ _ h => h) ?hy25 (by assumption) ?rest25
                  case hy25 => (refine Or.inl ⟨by rfl, ?_⟩; intro W hSw; (try dsimp only at hSw); go_simp; (try with_reducible rfl))
                  try simp only [Act.put, List.setIfInBounds_toArray, List.set_cons_zero, List.set_cons_succ]
                  refine wpAnyH_take (i := 1) (oi := { dst := some 110, op := Op.fieldAddr 29 (Operand.tmp 11) 1, type := 0, pos := "law.go:139", after := #[], guard := none }) (v := ?vv26) rfl (by kernel_rfl) (by kernel_rfl) (by kernel_rfl) (fun _ _ _ h => h) ?hy26 (by assumption) ?rest26
                  case hy26 => (refine Or.inl ⟨by rfl, ?_⟩; intro W hSw; (try dsimp only at hSw); go_simp; (try with_reducible rfl))
                  try simp only [Act.put, List.setIfInBounds_toArray, List.set_cons_zero, List.set_cons_succ]
                  refine wpAnyH_take (i := 2) (oi := { dst := some 111, op := Op.load 3 (Operand.tmp 110), type := 3, pos := "law.go:139", after := #[{ on := 1, ground := Ground.data }], guard := none }) (v := ?vv27) rfl (by kernel_rfl) (by kernel_rfl) (by kernel_rfl) (fun _ _ _ h => h) ?hy27 (by assumption) ?rest27
                  case hy27 => (refine Or.inl ⟨by rfl, ?_⟩; intro W hSw; (try dsimp only at hSw); go_simp; (try with_reducible rfl))
                  try simp only [Act.put, List.setIfInBounds_toArray, List.set_cons_zero, List.set_cons_succ]
                  refine wpAnyH_take (i := 4) (oi := { dst := some 113, op := Op.load 40 (Operand.tmp 17), type := 40, pos := "law.go:139", after := #[], guard := none }) (v := ?vv28) rfl (by kernel_rfl) (by kernel_rfl) (by kernel_rfl) (fun _ _ _ h => h) ?hy28 (by assumption) ?rest28
                  case hy28 => (refine Or.inl ⟨by rfl, ?_⟩; intro W hSw; (try dsimp only at hSw); go_simp; (try with_reducible rfl))
                  try simp only [Act.put, List.setIfInBounds_toArray, List.set_cons_zero, List.set_cons_succ]
                  refine wpAnyH_ready (rs := [3, 5]) (by kernel_rfl) (by simp) ?_
                  refine AllReadyH.cons (o := { dst := some 112, op := Op.call { callee := Callee.value (Operand.func 17), args := #[Operand.tmp 109, Operand.tmp 111], argTypes := #[35, 3] }, type := 35, pos := "law.go:139", after := #[{ on := 0, ground := Ground.data }, { on := 2, ground := Ground.data }], guard := none }) rfl (fun K hK => ?step29) ?more29
                  ((go_simp; go_at_call 17; refine (HWO.out _ (below_drew (Below.refl _ _))).mono ?_; rintro e w4 ⟨v4, rfl, hv4, hw4, hb4⟩; go_wp2_with fail))
                  refine hK.out _ _ ?hS29 (fun hHeld => ?rr29)
                  case hS29 => (exact HSW.out _ ((below_drew (Below.refl _ _)).trans hb4))
                  clear hK K
                  try simp only [Act.put, List.setIfInBounds_toArray, List.set_cons_zero, List.set_cons_succ]
                  · have hb5 : Below (w2.alloc (.cells #[.int .i64 t, .int .i64 x, .bool true] 40)).heap.size (w2.alloc (.cells #[.int .i64 t, .int .i64 x, .bool true] 40)) w4 := (below_drew (Below.refl _ _)).trans hb4
                    have HB5 := Lib.hid hb5
                    have HV4 := Lib.hid hv4
                    have HW4 := Lib.hid hw4
                    clear hv4 hw4 hb4 hb5
                    refine wpAnyH_ready (rs := [5]) (by kernel_rfl) (by simp) ?_
                    refine AllReadyH.cons (o := { dst := some 114, op := Op.buildSlice 35 1 #[(0, Operand.tmp 113)], type := 35, pos := "law.go:139", after := #[{ on := 4, ground := Ground.data }], guard := none }) rfl (fun K hK => ?step30) ?more30
                    case more30 => exact AllReadyH.nil
                    ((go_simp; go_wp2_with fail))
                    refine hK.out _ _ ?hS30 (fun hHeld => ?rr30)
                    case hS30 => (exact HSW.out _ (HB5.out.trans ((below_new _).mono HB5.out.size)))
                    clear hK K
                    try simp only [Act.put, List.setIfInBounds_toArray, List.set_cons_zero, List.set_cons_succ]
                    obtain ⟨v5, w5, hr5, hv5, ht5, ho5⟩ := app_gotS ⟨t, x, true⟩ 35 (RowIs.below HV4.out (below_new (.cells #[.int .i64 t, .int .i64 x, .bool true] 40))) (Nat.le_trans (without_len _ _) (Nat.le_trans HS3.out.lenW (by omega))) (alloc_at w4 _)
                    have hbn := HB5.out.trans ((below_new (w := w4) (.cells #[.int .i64 t, .int .i64 x, .bool true] 40)).mono HB5.out.size)
                    have HBF := Lib.hid (hbn.trans (ht5.below (fun i e => HW4.out i e) hbn.size))
                    have HR5 := Lib.hid hr5
                    have HF := Lib.hid (HS3.out.drop.setW HBF.out hv5 (fun i e => by
                      rcases ho5 i e with e2 | e2
                      · exact HW4.out i e2
                      · have := hbn.size
                        omega) (by
                      have := without_len wrote t
                      have := HS1.out.lenW
                      rw [List.length_append]; simp; omega))
                    clear hv5 ht5 ho5 hr5 hbn
                    refine wpAnyH_ready (rs := [6]) (by kernel_rfl) (by simp) ?_
                    refine AllReadyH.cons (o := { dst := some 115, op := Op.call { callee := Callee.builtin Builtin.append, args := #[Operand.tmp 112, Operand.tmp 114], argTypes := #[35, 35] }, type := 35, pos := "law.go:139", after := #[{ on := 3, ground := Ground.data }, { on := 5, ground := Ground.data }, { on := 3, ground := Ground.chain }], guard := none }) rfl (fun K hK => ?step31) ?more31
                    case more31 => exact AllReadyH.nil
                    ((refine oper_app_run _ _ _ _ rfl rfl rfl HR5.out ?_ (by kernel_rfl)))
                    refine hK.out _ _ ?hS31 (fun hHeld => ?rr31)
                    case hS31 => (exact HSW.out _ HBF.out)
                    clear hK K
                    try simp only [Act.put, List.setIfInBounds_toArray, List.set_cons_zero, List.set_cons_succ]
                    refine wpAnyH_take (i := 7) (oi := { dst := some 8, op := Op.assign (Operand.tmp 115), type := 35, pos := "law.go:139", after := #[{ on := 6, ground := Ground.data }, { on := 6, ground := Ground.chain }, { on := 0, ground := Ground.phase }, { on := 1, ground := Ground.phase }, { on := 2, ground := Ground.phase }, { on := 3, ground := Ground.phase }, { on := 4, ground := Ground.phase }, { on := 5, ground := Ground.phase }, { on := 6, ground := Ground.phase }], guard := none }) (v := ?vv32) rfl (by kernel_rfl) (by kernel_rfl) (by kernel_rfl) (fun _ _ _ h => h) ?hy32 (by assumption) ?rest32
                    case hy32 => (refine Or.inl ⟨by rfl, ?_⟩; intro W hSw; (try dsimp only at hSw); go_simp; (try with_reducible rfl))
                    try simp only [Act.put, List.setIfInBounds_toArray, List.set_cons_zero, List.set_cons_succ]
                    refine wpAnyH_done (by kernel_rfl) ?_ _
                    clear hHeld
                    dsimp only [onlyN]
                    go_wp2_with fail
                    go_roundw
                    case rel => exact ⟨k + 1, _, _, _, HLT.out.1, HLT.out.2, by go_num, HF.out, HI3.out⟩
                    case measure => have := HLT.out; simp [intOf]; omega
                  · have hbA : Below (w2.alloc (.cells #[.int .i64 t, .int .i64 x, .bool true] 40)).heap.size (w2.alloc (.cells #[.int .i64 t, .int .i64 x, .bool true] 40)) ((w2.alloc (.cells #[.int .i64 t, .int .i64 x, .bool true] 40)).drew.alloc (.cells #[.int .i64 t, .int .i64 x, .bool true] 40)) := (below_drew (Below.refl (w2.alloc (.cells #[.int .i64 t, .int .i64 x, .bool true] 40)).heap.size (w2.alloc (.cells #[.int .i64 t, .int .i64 x, .bool true] 40)))).trans (below_new (w := (w2.alloc (.cells #[.int .i64 t, .int .i64 x, .bool true] 40)).drew) (.cells #[.int .i64 t, .int .i64 x, .bool true] 40))
                    have hat := alloc_at (w2.alloc (.cells #[.int .i64 t, .int .i64 x, .bool true] 40)).drew (.cells #[.int .i64 t, .int .i64 x, .bool true] 40)
                    have HBA := Lib.hid hbA
                    have HAT := Lib.hid hat
                    clear hbA hat
                    refine AllReadyH.cons (o := { dst := some 114, op := Op.buildSlice 35 1 #[(0, Operand.tmp 113)], type := 35, pos := "law.go:139", after := #[{ on := 4, ground := Ground.data }], guard := none }) rfl (fun K hK => ?step33) ?more33
                    case more33 => exact AllReadyH.nil
                    ((go_simp; go_wp2_with fail))
                    refine hK.out _ _ ?hS33 (fun hHeld => ?rr33)
                    case hS33 => (exact HSW.out _ HBA.out)
                    clear hK K
                    try simp only [Act.put, List.setIfInBounds_toArray, List.set_cons_zero, List.set_cons_succ]
                    refine wpAnyH_ready (rs := [3]) (by kernel_rfl) (by simp) ?_
                    refine AllReadyH.cons (o := { dst := some 112, op := Op.call { callee := Callee.value (Operand.func 17), args := #[Operand.tmp 109, Operand.tmp 111], argTypes := #[35, 3] }, type := 35, pos := "law.go:139", after := #[{ on := 0, ground := Ground.data }, { on := 2, ground := Ground.data }], guard := none }) rfl (fun K hK => ?step34) ?more34
                    case more34 => exact AllReadyH.nil
                    ((go_simp; go_at_call 17; refine (HWO.out _ HBA.out).mono ?_; rintro e w4 ⟨v4, rfl, hv4, hw4, hb4⟩; go_wp2_with fail))
                    refine hK.out _ _ ?hS34 (fun hHeld => ?rr34)
                    case hS34 => (exact HSW.out _ (HBA.out.trans (hb4.mono HBA.out.size)))
                    clear hK K
                    try simp only [Act.put, List.setIfInBounds_toArray, List.set_cons_zero, List.set_cons_succ]
                    have HB5 := Lib.hid (HBA.out.trans (hb4.mono HBA.out.size))
                    have hat4 := (hb4.block _ (heap_lt HAT.out)).trans HAT.out
                    obtain ⟨v5, w5, hr5, hv5, ht5, ho5⟩ := app_gotS ⟨t, x, true⟩ 35 hv4 (Nat.le_trans (without_len _ _) (Nat.le_trans HS3.out.lenW (by omega))) hat4
                    have hbz := HBA.out.size
                    have HBF := Lib.hid (HB5.out.trans (ht5.below (fun i e => Nat.le_trans hbz (hw4 i e)) HB5.out.size))
                    have hr5 : (Builtin.append_ #[35, 35] 35 #[v4, .slice (some ⟨w2.heap.size + 1, 0, none⟩) 1 1]).run Tryd.prog w4 = .ok v5 w5 := by
                      have e : (w2.alloc (.cells #[.int .i64 t, .int .i64 x, .bool true] 40)).drew.heap.size = w2.heap.size + 1 := asz _ _
                      rw [e] at hr5
                      exact hr5
                    have HR5 := Lib.hid hr5
                    have HF := Lib.hid (HS3.out.drop.setW HBF.out hv5 (fun i e => by
                      rcases ho5 i e with e2 | e2
                      · exact Nat.le_trans hbz (hw4 i e2)
                      · have := HB5.out.size
                        omega) (by
                      have := without_len wrote t
                      have := HS1.out.lenW
                      rw [List.length_append]; simp; omega))
                    clear hv5 ht5 ho5 hr5 hbz hat4 hv4 hw4 hb4
                    refine wpAnyH_ready (rs := [6]) (by kernel_rfl) (by simp) ?_
                    refine AllReadyH.cons (o := { dst := some 115, op := Op.call { callee := Callee.builtin Builtin.append, args := #[Operand.tmp 112, Operand.tmp 114], argTypes := #[35, 35] }, type := 35, pos := "law.go:139", after := #[{ on := 3, ground := Ground.data }, { on := 5, ground := Ground.data }, { on := 3, ground := Ground.chain }], guard := none }) rfl (fun K hK => ?step35) ?more35
                    case more35 => exact AllReadyH.nil
                    ((refine oper_app_run _ _ _ _ rfl rfl rfl HR5.out ?_ (by kernel_rfl)))
                    refine hK.out _ _ ?hS35 (fun hHeld => ?rr35)
                    case hS35 => (exact HSW.out _ HBF.out)
                    clear hK K
                    try simp only [Act.put, List.setIfInBounds_toArray, List.set_cons_zero, List.set_cons_succ]
                    refine wpAnyH_take (i := 7) (oi := { dst := some 8, op := Op.assign (Operand.tmp 115), type := 35, pos := "law.go:139", after := #[{ on := 6, ground := Ground.data }, { on := 6, ground := Ground.chain }, { on := 0, ground := Ground.phase }, { on := 1, ground := Ground.phase }, { on := 2, ground := Ground.phase }, { on := 3, ground := Ground.phase }, { on := 4, ground := Ground.phase }, { on := 5, ground := Ground.phase }, { on := 6, ground := Ground.phase }], guard := none }) (v := ?vv36) rfl (by kernel_rfl) (by kernel_rfl) (by kernel_rfl) (fun _ _ _ h => h) ?hy36 (by assumption) ?rest36
                    case hy36 => (refine Or.inl ⟨by rfl, ?_⟩; intro W hSw; (try dsimp only at hSw); go_simp; (try with_reducible rfl))
                    try simp only [Act.put, List.setIfInBounds_toArray, List.set_cons_zero, List.set_cons_succ]
                    refine wpAnyH_done (by kernel_rfl) ?_ _
                    clear hHeld
                    dsimp only [onlyN]
                    go_wp2_with fail
                    go_roundw
                    case rel => exact ⟨k + 1, _, _, _, HLT.out.1, HLT.out.2, by go_num, HF.out, HI3.out⟩
                    case measure => have := HLT.out; simp [intOf]; omega
                | false =>
                  have HS3 := Lib.hid (HS2.out.boxed (.cells #[.int .i64 t, .int .i64 0, .bool false] 40))
                  have hbx := (HS3.out.box _ (List.mem_cons_of_mem _ (List.mem_cons_self ..))).1
                  have hbw := (HS3.out.box _ (List.mem_cons_self ..)).1
                  have HSW : Hid (∀ W, Below (w2.alloc (.cells #[.int .i64 t, .int .i64 0, .bool false] 40)).heap.size (w2.alloc (.cells #[.int .i64 t, .int .i64 0, .bool false] 40)) W → S22 wr.heap.size w2.heap.size t 0 false W) := Lib.hid (fun W hW => ⟨(hW.cell (heap_lt hbx)).trans (cell_of hbx 1), (hW.cell (heap_lt hbw)).trans (cell_of hbw 0), (hW.cell (heap_lt hbw)).trans (cell_of hbw 1), (hW.cell (heap_lt hbw)).trans (cell_of hbw 2)⟩)
                  have HWO : Hid (∀ W, Below (w2.alloc (.cells #[.int .i64 t, .int .i64 0, .bool false] 40)).heap.size (w2.alloc (.cells #[.int .i64 t, .int .i64 0, .bool false] 40)) W → Calls Tryd.prog 17 #[u8, .int .i64 t] W fun e w' => ∃ v', e = .returned v' ∧ GIs w' v' (withoutP wrote t) ∧ (∀ b, v'.ownBlock = some b → W.heap.size ≤ b) ∧ Below W.heap.size W w') := Lib.hid (fun W hW => without_any (RowIs.below HS3.out.wt hW) (Nat.le_trans HS3.out.lenW (by omega)))
                  have hbx := ((HS2.out.boxed (.cells #[.int .i64 t, .int .i64 x, .bool false] 40)).box _ (List.mem_cons_of_mem _ (List.mem_cons_self ..))).1
                  have b3 := cell_of hbx 3
                  simp at b3
                  clear hbx hbw
                  go_upto_region 22 with fail
                  refine wp_only ?_
                  refine wp_region_held_drew (S := fun W => W.cell? ⟨wr.heap.size, 1, none⟩ = some (.int .i64 t) ∧ W.cell? ⟨w2.heap.size, 0, none⟩ = some (.int .i64 t) ∧ W.cell? ⟨w2.heap.size, 1, none⟩ = some (.int .i64 0) ∧ W.cell? ⟨w2.heap.size, 2, none⟩ = some (.bool false)) (by kernel_rfl) (HSW.out _ (below_drew (Below.refl _ _))) (fun hHeld => ?_)
                  refine wpAnyH_take (i := 0) (oi := { dst := some 109, op := Op.move (Operand.tmp 8), type := 35, pos := "law.go:139", after := #[], guard := none }) (v := ?vv37) rfl (by kernel_rfl) (by kernel_rfl) (by kernel_rfl) (fun _ _ _ h => h) ?hy37 (by assumption) ?rest37
                  case hy37 => (refine Or.inl ⟨by rfl, ?_⟩; intro W hSw; (try dsimp only at hSw); go_simp; (try with_reducible rfl))
                  try simp only [Act.put, List.setIfInBounds_toArray, List.set_cons_zero, List.set_cons_succ]
                  refine wpAnyH_take (i := 1) (oi := { dst := some 110, op := Op.fieldAddr 29 (Operand.tmp 11) 1, type := 0, pos := "law.go:139", after := #[], guard := none }) (v := ?vv38) rfl (by kernel_rfl) (by kernel_rfl) (by kernel_rfl) (fun _ _ _ h => h) ?hy38 (by assumption) ?rest38
                  case hy38 => (refine Or.inl ⟨by rfl, ?_⟩; intro W hSw; (try dsimp only at hSw); go_simp; (try with_reducible rfl))
                  try simp only [Act.put, List.setIfInBounds_toArray, List.set_cons_zero, List.set_cons_succ]
                  refine wpAnyH_take (i := 2) (oi := { dst := some 111, op := Op.load 3 (Operand.tmp 110), type := 3, pos := "law.go:139", after := #[{ on := 1, ground := Ground.data }], guard := none }) (v := ?vv39) rfl (by kernel_rfl) (by kernel_rfl) (by kernel_rfl) (fun _ _ _ h => h) ?hy39 (by assumption) ?rest39
                  case hy39 => (refine Or.inl ⟨by rfl, ?_⟩; intro W hSw; (try dsimp only at hSw); go_simp; (try with_reducible rfl))
                  try simp only [Act.put, List.setIfInBounds_toArray, List.set_cons_zero, List.set_cons_succ]
                  refine wpAnyH_take (i := 4) (oi := { dst := some 113, op := Op.load 40 (Operand.tmp 17), type := 40, pos := "law.go:139", after := #[], guard := none }) (v := ?vv40) rfl (by kernel_rfl) (by kernel_rfl) (by kernel_rfl) (fun _ _ _ h => h) ?hy40 (by assumption) ?rest40
                  case hy40 => (refine Or.inl ⟨by rfl, ?_⟩; intro W hSw; (try dsimp only at hSw); go_simp; (try with_reducible rfl))
                  try simp only [Act.put, List.setIfInBounds_toArray, List.set_cons_zero, List.set_cons_succ]
                  refine wpAnyH_ready (rs := [3, 5]) (by kernel_rfl) (by simp) ?_
                  refine AllReadyH.cons (o := { dst := some 112, op := Op.call { callee := Callee.value (Operand.func 17), args := #[Operand.tmp 109, Operand.tmp 111], argTypes := #[35, 3] }, type := 35, pos := "law.go:139", after := #[{ on := 0, ground := Ground.data }, { on := 2, ground := Ground.data }], guard := none }) rfl (fun K hK => ?step41) ?more41
                  ((go_simp; go_at_call 17; refine (HWO.out _ (below_drew (Below.refl _ _))).mono ?_; rintro e w4 ⟨v4, rfl, hv4, hw4, hb4⟩; go_wp2_with fail))
                  refine hK.out _ _ ?hS41 (fun hHeld => ?rr41)
                  case hS41 => (exact HSW.out _ ((below_drew (Below.refl _ _)).trans hb4))
                  clear hK K
                  try simp only [Act.put, List.setIfInBounds_toArray, List.set_cons_zero, List.set_cons_succ]
                  · have hb5 : Below (w2.alloc (.cells #[.int .i64 t, .int .i64 0, .bool false] 40)).heap.size (w2.alloc (.cells #[.int .i64 t, .int .i64 0, .bool false] 40)) w4 := (below_drew (Below.refl _ _)).trans hb4
                    have HB5 := Lib.hid hb5
                    have HV4 := Lib.hid hv4
                    have HW4 := Lib.hid hw4
                    clear hv4 hw4 hb4 hb5
                    refine wpAnyH_ready (rs := [5]) (by kernel_rfl) (by simp) ?_
                    refine AllReadyH.cons (o := { dst := some 114, op := Op.buildSlice 35 1 #[(0, Operand.tmp 113)], type := 35, pos := "law.go:139", after := #[{ on := 4, ground := Ground.data }], guard := none }) rfl (fun K hK => ?step42) ?more42
                    case more42 => exact AllReadyH.nil
                    ((go_simp; go_wp2_with fail))
                    refine hK.out _ _ ?hS42 (fun hHeld => ?rr42)
                    case hS42 => (exact HSW.out _ (HB5.out.trans ((below_new _).mono HB5.out.size)))
                    clear hK K
                    try simp only [Act.put, List.setIfInBounds_toArray, List.set_cons_zero, List.set_cons_succ]
                    obtain ⟨v5, w5, hr5, hv5, ht5, ho5⟩ := app_gotS ⟨t, 0, false⟩ 35 (RowIs.below HV4.out (below_new (.cells #[.int .i64 t, .int .i64 0, .bool false] 40))) (Nat.le_trans (without_len _ _) (Nat.le_trans HS3.out.lenW (by omega))) (alloc_at w4 _)
                    have hbn := HB5.out.trans ((below_new (w := w4) (.cells #[.int .i64 t, .int .i64 0, .bool false] 40)).mono HB5.out.size)
                    have HBF := Lib.hid (hbn.trans (ht5.below (fun i e => HW4.out i e) hbn.size))
                    have HR5 := Lib.hid hr5
                    have HF := Lib.hid (HS3.out.drop.setW HBF.out hv5 (fun i e => by
                      rcases ho5 i e with e2 | e2
                      · exact HW4.out i e2
                      · have := hbn.size
                        omega) (by
                      have := without_len wrote t
                      have := HS1.out.lenW
                      rw [List.length_append]; simp; omega))
                    clear hv5 ht5 ho5 hr5 hbn
                    refine wpAnyH_ready (rs := [6]) (by kernel_rfl) (by simp) ?_
                    refine AllReadyH.cons (o := { dst := some 115, op := Op.call { callee := Callee.builtin Builtin.append, args := #[Operand.tmp 112, Operand.tmp 114], argTypes := #[35, 35] }, type := 35, pos := "law.go:139", after := #[{ on := 3, ground := Ground.data }, { on := 5, ground := Ground.data }, { on := 3, ground := Ground.chain }], guard := none }) rfl (fun K hK => ?step43) ?more43
                    case more43 => exact AllReadyH.nil
                    ((refine oper_app_run _ _ _ _ rfl rfl rfl HR5.out ?_ (by kernel_rfl)))
                    refine hK.out _ _ ?hS43 (fun hHeld => ?rr43)
                    case hS43 => (exact HSW.out _ HBF.out)
                    clear hK K
                    try simp only [Act.put, List.setIfInBounds_toArray, List.set_cons_zero, List.set_cons_succ]
                    refine wpAnyH_take (i := 7) (oi := { dst := some 8, op := Op.assign (Operand.tmp 115), type := 35, pos := "law.go:139", after := #[{ on := 6, ground := Ground.data }, { on := 6, ground := Ground.chain }, { on := 0, ground := Ground.phase }, { on := 1, ground := Ground.phase }, { on := 2, ground := Ground.phase }, { on := 3, ground := Ground.phase }, { on := 4, ground := Ground.phase }, { on := 5, ground := Ground.phase }, { on := 6, ground := Ground.phase }], guard := none }) (v := ?vv44) rfl (by kernel_rfl) (by kernel_rfl) (by kernel_rfl) (fun _ _ _ h => h) ?hy44 (by assumption) ?rest44
                    case hy44 => (refine Or.inl ⟨by rfl, ?_⟩; intro W hSw; (try dsimp only at hSw); go_simp; (try with_reducible rfl))
                    try simp only [Act.put, List.setIfInBounds_toArray, List.set_cons_zero, List.set_cons_succ]
                    refine wpAnyH_done (by kernel_rfl) ?_ _
                    clear hHeld
                    dsimp only [onlyN]
                    go_wp2_with fail
                    go_roundw
                    case rel => exact ⟨k + 1, _, _, _, HLT.out.1, HLT.out.2, by go_num, HF.out, HI3.out⟩
                    case measure => have := HLT.out; simp [intOf]; omega
                  · have hbA : Below (w2.alloc (.cells #[.int .i64 t, .int .i64 0, .bool false] 40)).heap.size (w2.alloc (.cells #[.int .i64 t, .int .i64 0, .bool false] 40)) ((w2.alloc (.cells #[.int .i64 t, .int .i64 0, .bool false] 40)).drew.alloc (.cells #[.int .i64 t, .int .i64 0, .bool false] 40)) := (below_drew (Below.refl (w2.alloc (.cells #[.int .i64 t, .int .i64 0, .bool false] 40)).heap.size (w2.alloc (.cells #[.int .i64 t, .int .i64 0, .bool false] 40)))).trans (below_new (w := (w2.alloc (.cells #[.int .i64 t, .int .i64 0, .bool false] 40)).drew) (.cells #[.int .i64 t, .int .i64 0, .bool false] 40))
                    have hat := alloc_at (w2.alloc (.cells #[.int .i64 t, .int .i64 0, .bool false] 40)).drew (.cells #[.int .i64 t, .int .i64 0, .bool false] 40)
                    have HBA := Lib.hid hbA
                    have HAT := Lib.hid hat
                    clear hbA hat
                    refine AllReadyH.cons (o := { dst := some 114, op := Op.buildSlice 35 1 #[(0, Operand.tmp 113)], type := 35, pos := "law.go:139", after := #[{ on := 4, ground := Ground.data }], guard := none }) rfl (fun K hK => ?step45) ?more45
                    case more45 => exact AllReadyH.nil
                    ((go_simp; go_wp2_with fail))
                    refine hK.out _ _ ?hS45 (fun hHeld => ?rr45)
                    case hS45 => (exact HSW.out _ HBA.out)
                    clear hK K
                    try simp only [Act.put, List.setIfInBounds_toArray, List.set_cons_zero, List.set_cons_succ]
                    refine wpAnyH_ready (rs := [3]) (by kernel_rfl) (by simp) ?_
                    refine AllReadyH.cons (o := { dst := some 112, op := Op.call { callee := Callee.value (Operand.func 17), args := #[Operand.tmp 109, Operand.tmp 111], argTypes := #[35, 3] }, type := 35, pos := "law.go:139", after := #[{ on := 0, ground := Ground.data }, { on := 2, ground := Ground.data }], guard := none }) rfl (fun K hK => ?step46) ?more46
                    case more46 => exact AllReadyH.nil
                    ((go_simp; go_at_call 17; refine (HWO.out _ HBA.out).mono ?_; rintro e w4 ⟨v4, rfl, hv4, hw4, hb4⟩; go_wp2_with fail))
                    refine hK.out _ _ ?hS46 (fun hHeld => ?rr46)
                    case hS46 => (exact HSW.out _ (HBA.out.trans (hb4.mono HBA.out.size)))
                    clear hK K
                    try simp only [Act.put, List.setIfInBounds_toArray, List.set_cons_zero, List.set_cons_succ]
                    have HB5 := Lib.hid (HBA.out.trans (hb4.mono HBA.out.size))
                    have hat4 := (hb4.block _ (heap_lt HAT.out)).trans HAT.out
                    obtain ⟨v5, w5, hr5, hv5, ht5, ho5⟩ := app_gotS ⟨t, 0, false⟩ 35 hv4 (Nat.le_trans (without_len _ _) (Nat.le_trans HS3.out.lenW (by omega))) hat4
                    have hbz := HBA.out.size
                    have HBF := Lib.hid (HB5.out.trans (ht5.below (fun i e => Nat.le_trans hbz (hw4 i e)) HB5.out.size))
                    have hr5 : (Builtin.append_ #[35, 35] 35 #[v4, .slice (some ⟨w2.heap.size + 1, 0, none⟩) 1 1]).run Tryd.prog w4 = .ok v5 w5 := by
                      have e : (w2.alloc (.cells #[.int .i64 t, .int .i64 0, .bool false] 40)).drew.heap.size = w2.heap.size + 1 := asz _ _
                      rw [e] at hr5
                      exact hr5
                    have HR5 := Lib.hid hr5
                    have HF := Lib.hid (HS3.out.drop.setW HBF.out hv5 (fun i e => by
                      rcases ho5 i e with e2 | e2
                      · exact Nat.le_trans hbz (hw4 i e2)
                      · have := HB5.out.size
                        omega) (by
                      have := without_len wrote t
                      have := HS1.out.lenW
                      rw [List.length_append]; simp; omega))
                    clear hv5 ht5 ho5 hr5 hbz hat4 hv4 hw4 hb4
                    refine wpAnyH_ready (rs := [6]) (by kernel_rfl) (by simp) ?_
                    refine AllReadyH.cons (o := { dst := some 115, op := Op.call { callee := Callee.builtin Builtin.append, args := #[Operand.tmp 112, Operand.tmp 114], argTypes := #[35, 35] }, type := 35, pos := "law.go:139", after := #[{ on := 3, ground := Ground.data }, { on := 5, ground := Ground.data }, { on := 3, ground := Ground.chain }], guard := none }) rfl (fun K hK => ?step47) ?more47
                    case more47 => exact AllReadyH.nil
                    ((refine oper_app_run _ _ _ _ rfl rfl rfl HR5.out ?_ (by kernel_rfl)))
                    refine hK.out _ _ ?hS47 (fun hHeld => ?rr47)
                    case hS47 => (exact HSW.out _ HBF.out)
                    clear hK K
                    try simp only [Act.put, List.setIfInBounds_toArray, List.set_cons_zero, List.set_cons_succ]
                    refine wpAnyH_take (i := 7) (oi := { dst := some 8, op := Op.assign (Operand.tmp 115), type := 35, pos := "law.go:139", after := #[{ on := 6, ground := Ground.data }, { on := 6, ground := Ground.chain }, { on := 0, ground := Ground.phase }, { on := 1, ground := Ground.phase }, { on := 2, ground := Ground.phase }, { on := 3, ground := Ground.phase }, { on := 4, ground := Ground.phase }, { on := 5, ground := Ground.phase }, { on := 6, ground := Ground.phase }], guard := none }) (v := ?vv48) rfl (by kernel_rfl) (by kernel_rfl) (by kernel_rfl) (fun _ _ _ h => h) ?hy48 (by assumption) ?rest48
                    case hy48 => (refine Or.inl ⟨by rfl, ?_⟩; intro W hSw; (try dsimp only at hSw); go_simp; (try with_reducible rfl))
                    try simp only [Act.put, List.setIfInBounds_toArray, List.set_cons_zero, List.set_cons_succ]
                    refine wpAnyH_done (by kernel_rfl) ?_ _
                    clear hHeld
                    dsimp only [onlyN]
                    go_wp2_with fail
                    go_roundw
                    case rel => exact ⟨k + 1, _, _, _, HLT.out.1, HLT.out.2, by go_num, HF.out, HI3.out⟩
                    case measure => have := HLT.out; simp [intOf]; omega
              · have q1' : (e1 == 0) = false := by rw [beq_eq_false_iff_ne]; exact q1
                have HI3 : Hid (Inv L1 wrote got) := Lib.hid (by
                  have := HI1.out.write_err (t := t) (n := x) (th := b) (by rw [HRP.out]; exact q1)
                  rw [HRP.out] at this
                  exact this)
                clear q1
                go_wp2_with fail
                go_roundw
                case rel => exact ⟨k + 1, _, _, _, HLT.out.1, HLT.out.2, by go_num, HS2.out.drop, HI3.out⟩
                case measure => have := HLT.out; simp [intOf]; omega
          · by_cases q4 : kd = 4
            · subst q4
              have HC := Lib.hid (HBX.out.commit t)
              have HI3 := Lib.hid (HI1.out.commit t)
              clear q0 q2
              go_wp2_with fail
              refine (HC.out).mono ?_
              rintro e w2 ⟨rfl, hs2⟩
              have HS3 := Lib.hid hs2
              clear hs2 k0 k1 k2 k3 HC
              go_wp2_with fail
              go_roundw
              case rel => exact ⟨k + 1, _, _, _, HLT.out.1, HLT.out.2, by go_num, HS3.out.drop.upto (Nat.le_succ k), HI3.out⟩
              case measure => have := HLT.out; simp [intOf]; omega
            · by_cases q5 : kd = 5
              · subst q5
                have HC := Lib.hid (HBX.out.abort t)
                obtain ⟨L1, d, hr⟩ : ∃ L1 d, abortP L t = (L1, d) := ⟨_, _, rfl⟩
                rw [hr] at HC
                have HRP := Lib.hid hr
                clear hr q0 q2 q4
                go_wp2_with fail
                refine (HC.out).mono ?_
                rintro e w2 ⟨rfl, hs2⟩
                have hbx := (hs2.box _ (List.mem_cons_self ..)).1
                have b1 := cell_of hbx 1
                simp at b1
                have HS3 := Lib.hid hs2
                clear hs2 hbx k0 k1 k2 k3 HC
                cases d with
                | false =>
                  have HI3 : Hid (Inv L1 wrote got) := Lib.hid (by
                    have := HI1.out.abort_no (t := t) (by rw [HRP.out])
                    rw [HRP.out] at this
                    exact this)
                  go_wp2_with fail
                  go_roundw
                  case rel => exact ⟨k + 1, _, _, _, HLT.out.1, HLT.out.2, by go_num, HS3.out.drop.upto (Nat.le_succ k), HI3.out⟩
                  case measure => have := HLT.out; simp [intOf]; omega
                | true =>
                  have HI3 : Hid (Inv L1 (withoutP wrote t) got) := Lib.hid (by
                    have := HI1.out.abort_yes (t := t) (by rw [HRP.out])
                    rw [HRP.out] at this
                    exact this)
                  have HWO := Lib.hid (without_any (t := t) HS3.out.wt (Nat.le_trans HS3.out.lenW (by omega)))
                  go_wp2_with fail
                  refine (HWO.out).mono ?_
                  rintro e w4 ⟨v4, rfl, hv4, hw4, hb4⟩
                  have HF := Lib.hid ((HS3.out.drop.upto (Nat.le_succ k)).setW hb4 hv4 hw4 (Nat.le_trans (without_len wrote t) (Nat.le_trans HS3.out.lenW (Nat.le_succ k))))
                  clear hv4 hw4 hb4 HWO
                  go_wp2_with fail
                  go_roundw
                  case rel => exact ⟨k + 1, _, _, _, HLT.out.1, HLT.out.2, by go_num, HF.out, HI3.out⟩
                  case measure => have := HLT.out; simp [intOf]; omega
              · have p0 : (kd == 0) = false := by rw [beq_eq_false_iff_ne]; omega
                have p1 : (kd == 1) = false := by rw [beq_eq_false_iff_ne]; omega
                have p2 : (kd == 2) = false := by rw [beq_eq_false_iff_ne]; omega
                have p3 : (kd == 3) = false := by rw [beq_eq_false_iff_ne]; omega
                have p4 : (kd == 4) = false := by rw [beq_eq_false_iff_ne]; omega
                have p5 : (kd == 5) = false := by rw [beq_eq_false_iff_ne]; omega
                clear q0 q2 q4 q5
                go_wp2_with fail
                go_roundw
                case rel => exact ⟨k + 1, _, _, _, HLT.out.1, HLT.out.2, by go_num, HBX.out.drop.upto (Nat.le_succ k), HI1.out⟩
                case measure => have := HLT.out; simp [intOf]; omega
      · by_cases hkm2 : k < m
        · obtain ⟨a, kd, t, x, b, rfl, hab, k0, k1, k2, k3, ht, hx⟩ := HO3.out k hkm2
          have l1 : (k : Int) < (m : Int) := by omega
          have l2 : ¬ (k : Int) < 40 := by omega
          have l3 : (40 : Int) ≤ (k : Int) := by omega
          have HB := Lib.hid hs.below
          replace k0 := (HB.out.cell (p := a.add (k * 4)) (by rw [add_block]; exact hab)).trans k0
          replace k1 : wr.cell? ⟨(a.add (k * 4)).block, (a.add (k * 4)).off + 1, none⟩ = some (.int .i64 t) := (HB.out.cell (p := (a.add (k * 4)).add 1) (by rw [add_block, add_block]; exact hab)).trans k1
          replace k2 : wr.cell? ⟨(a.add (k * 4)).block, (a.add (k * 4)).off + 2, none⟩ = some (.int .i64 x) := (HB.out.cell (p := (a.add (k * 4)).add 2) (by rw [add_block, add_block]; exact hab)).trans k2
          replace k3 : wr.cell? ⟨(a.add (k * 4)).block, (a.add (k * 4)).off + 3, none⟩ = some (.bool b) := (HB.out.cell (p := (a.add (k * 4)).add 3) (by rw [add_block, add_block]; exact hab)).trans k3
          have HBX := Lib.hid (hs.boxed (.cells #[.int .i64 kd, .int .i64 t, .int .i64 x, .bool b] 29))
          clear hs hI hlt hkm2
          go_wp2_with fail
          go_meet
          exact ⟨_, k, _, _, _, hkm, hk40, rfl, HBX.out.drop, HI1.out⟩
        · have l1 : ¬ (k : Int) < (m : Int) := by omega
          clear hs hI hlt
          go_wp2_with fail
          go_meet
          exact ⟨_, k, _, _, _, hkm, hk40, rfl, HS1.out, HI1.out⟩
  case rest =>
    obtain ⟨iv, k, L, wrote, got, hkm, hk40, rfl, hs, hI⟩ := hcut
    obtain ⟨Ag, cg, rfl, hg1, hg2, _⟩ := id (RowIs.form hs.gt)
    unfold maxLen at hg2
    have hl' : (got.length : Int) ≤ 1000000 := by have := hs.lenG; omega
    have HSR := Lib.hid hs
    have HIR := Lib.hid hI
    clear hs hI HS HI
    go_wp2_with fail
    go_loopw [135] (fun iv wx => ∃ i : Nat, i ≤ got.length ∧ iv = .int .i64 i ∧ Sit w wx c _ (.slice Ag got.length cg) L wrote got k []) (fun iv _ => got.length - (intOf iv).toNat)
    case atStart => exact ⟨0, Nat.zero_le _, rfl, HSR.out⟩
    case round =>
      obtain ⟨i, hi, rfl, hs⟩ := hrel
      obtain ⟨wo, rfl⟩ : ∃ wo, wo = wr := ⟨_, rfl⟩
      clear HSR
      by_cases hlt : i < got.length
      · have hx : got[i]? = some got[i] := List.getElem?_eq_getElem hlt
        generalize got[i] = y at hx
        obtain ⟨g, cap', e0, _, _, _, k0, k1, k2⟩ := GIs.got hs.gt hx
        injection e0 with e0 _ e1
        subst e0 e1
        have hii : (i : Int) < (got.length : Int) := by omega
        have HLT := Lib.hid hlt
        have HX := Lib.hid (hIR_last hx HIR.out)
        have HL3 := Lib.hid (lp3_start wo y L)
        obtain ⟨v0, hc0, _, _⟩ := hs.ch
        have HS1 := Lib.hid hs
        have hVE := Versions_any (hc0.below (lp3_below wo y)) HIR.out.pos
        rw [boxG_size] at hVE
        have HVE := Lib.hid hVE
        have hLk := hs.lenL
        clear hx hlt hi hs hc0 hVE
        go_wp2_with fail
        refine (HVE.out).mono ?_
        rintro e w4 ⟨rfl, hw4⟩
        rw [← hw4] at HL3
        clear HVE k0 k1 k2 hw4
        have hLi : (L.length : Int) ≤ 1000 := by omega
        go_wp2_with fail
        go_loopw [142] (fun iv wx => ∃ j : Nat, j ≤ L.length ∧ iv = .int .i64 j ∧ Lp3 wo y L j wx) (fun iv _ => L.length - (intOf iv).toNat)
        case atStart => exact ⟨0, Nat.zero_le _, rfl, HL3.out⟩
        case round =>
          obtain ⟨j, hj, rfl, hL⟩ := hrel
          clear HL3
          by_cases hjl : j < L.length
          · have hu : L[j]? = some L[j] := List.getElem?_eq_getElem hjl
            generalize L[j] = u at hu
            have hg5 := verC_get hu
            have kk : ∀ q, q < 5 → wr.cell? ⟨wo.heap.size + 2, j * 5 + q, none⟩ = (verV u)[q]? := fun q hq => by
              rw [cell_of hL.all]
              rw [← hg5 q hq]
              simp
            have k0 := kk 0 (by omega)
            have k1 := kk 1 (by omega)
            have k2 := kk 2 (by omega)
            have k3 := kk 3 (by omega)
            have k4 := kk 4 (by omega)
            simp only [verV, Nat.add_zero, List.getElem?_cons_zero, List.getElem?_cons_succ] at k0 k1 k2 k3 k4
            have hjj : (j : Int) < (L.length : Int) := by omega
            have hsz := heap_lt hL.all
            have hbv := below_new (w := wr) (.cells #[.int .i64 u.at_, .int .i64 u.n, .bool u.there, .int .i64 u.read, .bool u.opn] 47)
            have hbA := hL.below.trans (hbv.mono hL.below.size)
            have hgA := (hbv.block _ (by omega)).trans hL.got
            have hlA := (hbv.block _ (by omega)).trans hL.last
            have haA := (hbv.block _ (by omega)).trans hL.all
            have HJL := Lib.hid hjl
            by_cases hlt : u.at_ < y.at_
            · have HN : Hid (Lp3 wo y L (j + 1) (put5 (wr.alloc (.cells #[.int .i64 u.at_, .int .i64 u.n, .bool u.there, .int .i64 u.read, .bool u.opn] 47)) (wo.heap.size + 1) 0 (.int .i64 u.at_) (.int .i64 u.n) (.bool u.there) (.int .i64 u.read) (.bool u.opn))) := Lib.hid ⟨put5_below hbA (by omega) 0 _ _ _ _ _, (put5_block (by omega) _ _ _ _ _).trans hgA, by
                rw [below_step hu, if_pos hlt]
                exact put5_at hlA _ _ _ _ _, (put5_block (by omega) _ _ _ _ _).trans haA⟩
              have g0 := cell_of hgA 0
              have f0 := free0 hlA 0
              have f1 := free0 hlA 1
              have f2 := free0 hlA 2
              have f3 := free0 hlA 3
              have f4 := free0 hlA 4
              have c0 := cell_of hlA 0
              have c1 := cell_of hlA 1
              have c2 := cell_of hlA 2
              have c3 := cell_of hlA 3
              have c4 := cell_of hlA 4
              simp [verA] at g0 c0 c1 c2 c3 c4
              clear kk hg5 hbv hbA hgA hlA haA hL hu hj hjl
              go_wp2_with fail
              go_roundw
              case rel => exact ⟨j + 1, HJL.out, by go_num, HN.out⟩
              case measure => have := HJL.out; simp [intOf]; omega
            · have HN : Hid (Lp3 wo y L (j + 1) (wr.alloc (.cells #[.int .i64 u.at_, .int .i64 u.n, .bool u.there, .int .i64 u.read, .bool u.opn] 47))) := Lib.hid ⟨hbA, hgA, by
                rw [below_step hu, if_neg hlt]
                exact hlA, haA⟩
              have g0 := cell_of hgA 0
              simp at g0
              clear kk hg5 hbv hbA hgA hlA haA hL hu hj hjl
              go_wp2_with fail
              go_roundw
              case rel => exact ⟨j + 1, HJL.out, by go_num, HN.out⟩
              case measure => have := HJL.out; simp [intOf]; omega
          · obtain rfl : j = L.length := by omega
            have hla := hL.last
            rw [List.take_length] at hla
            have g1 := cell_of hL.got 1
            have g2 := cell_of hL.got 2
            have c1 := cell_of hla 1
            have c2 := cell_of hla 2
            obtain ⟨hx1, hx2⟩ := HX.out
            simp [verA, hx1, hx2] at g1 g2 c1 c2
            have HF := Lib.hid (HS1.out.keep hL.below)
            clear hL hla hj hjl hx1 hx2
            go_wp2_with fail
            go_roundw
            case rel => exact ⟨i + 1, HLT.out, by go_num, HF.out⟩
            case measure => have := HLT.out; simp [intOf]; omega
      · obtain rfl : i = got.length := by omega
        obtain ⟨v0, hc0, _, _⟩ := hs.ch
        have HVE := Lib.hid (Versions_any hc0 HIR.out.pos)
        have hb5 := below_new (w := wo) (.cells (verC L).toArray 47)
        have HB5 := Lib.hid (hs.below.trans (hb5.mono hs.below.size))
        have HA := Lib.hid (awake_any (HG.out.below HB5.out))
        have hpos : (0 : Int) < (L.length : Int) := by have := HIR.out.pos; omega
        clear hs hc0 hi hlt hb5
        go_wp2_with fail
        refine (HVE.out).mono ?_
        rintro e w5 ⟨rfl, rfl⟩
        go_wp2_with fail
        refine (HA.out).mono ?_
        rintro e w6 ⟨rfl, hb6⟩
        have HF := Lib.hid (HB5.out.trans (hb6.mono HB5.out.size))
        clear hb6 HA HVE HB5
        go_wp2_with fail
        go_ret
        exact ⟨rfl, HF.out⟩
end Go.Proofs.YtmaokoekbjjgfaaDoor
