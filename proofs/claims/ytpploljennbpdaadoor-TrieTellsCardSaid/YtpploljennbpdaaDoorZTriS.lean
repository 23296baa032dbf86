/- trie: kid and add. -/
import Derived.Test.YtpploljennbpdaaDoorZTriR
set_option linter.unusedSimpArgs false
set_option linter.unusedVariables false
set_option linter.unnecessarySimpa false
namespace Go.Proofs.YtpploljennbpdaaDoor
open Go.RowKit Go.Shelf

/-- What a tree has that had another one before. -/
def Grew (w : World) (tb : Nat) (v : Value) (N : List Nd) (P' : List Pth) (w' : World) : Prop :=
  ∃ v' N', TrBx w' tb v' N' P' ∧ Touch (fun k => k = tb ∨ TrOwn v N k) w w' ∧ ∀ g, TrOwn v' N' g → TrOwn v N g ∨ w.heap.size ≤ g
theorem Grew.refl {w : World} {tb : Nat} {v : Value} {N : List Nd} {P : List Pth} (h : TrBx w tb v N P) : Grew w tb v N P w := ⟨v, N, h, Touch.refl _ _, fun g hg => .inl hg⟩
theorem Grew.trans {w w1 w2 : World} {tb : Nat} {v v1 : Value} {N N1 : List Nd} {P2 : List Pth} (ht : Touch (fun k => k = tb ∨ TrOwn v N k) w w1) (ho : ∀ g, TrOwn v1 N1 g → TrOwn v N g ∨ w.heap.size ≤ g) (h2 : Grew w1 tb v1 N1 P2 w2) : Grew w tb v N P2 w2 := by
  obtain ⟨v2, N2, hb, ht2, ho2⟩ := h2
  refine ⟨v2, N2, hb, ht.trans ht2 (fun k hk e => ?_), fun g hg => ?_⟩
  · rcases e with e | e
    · exact .inl e
    · rcases ho k e with e | e
      · exact .inr e
      · omega
  · rcases ho2 g hg with e | e
    · exact ho g e
    · exact .inr (Nat.le_trans ht.size e)
theorem step_app_run {P : Program} {ops : Array Oper} {o : Oper} {a : Act} {w wa : World} {K : Act → World → Prop} {Q : Exit → Act → World → Prop} {E : Prop} {T tx : TypeId} {u v v' : Value}
    (hrun : (Builtin.append_ #[T, tx] o.type #[u, v]).run P w = .ok v' wa) (hgd : o.guard = none) (s x : Operand) (ho : o.op = .call { callee := .builtin .append, args := #[s, x], argTypes := #[T, tx] })
    (hs : a.eval s = u) (hx : a.eval x = v) (h : K (a.put o.dst v') wa) : if Region.wanted o (yielded ops a.tmps) = true then Oper.wp P o a w K Q else E := by
  have hw : Region.wanted o (yielded ops a.tmps) = true := by simp [Region.wanted, hgd]
  rw [if_pos hw]
  unfold Oper.wp execOp
  simp only [ho, resolve, invoke, builtin, Sem.run_bind, Sem.run_pure, Result.andThen_ok, List.map_toArray, List.map_cons, List.map_nil, hs, hx, hrun]
  exact h
/-- What kid answers and leaves. -/
def KidP (w : World) (tb : Nat) (v : Value) (N : List Nd) (P : List Pth) (z : Pth) (e : Ending) (w' : World) : Prop :=
  e = .returned (.int .i64 (idxP (addK P z) z : Int)) ∧ Grew w tb v N (addK P z) w'
theorem kid_sub {P : List Pth} (hT : TreeP P) {n m : Nat} {p : Pth} (hn : P[n]? = some p) (hm : m ∈ kidsP P n) : P[m]? = some (p ++ [subP P m]) := by
  obtain ⟨_, x, hx⟩ := hT.kid hn hm
  rw [hx, sub_at hx]
  simp
theorem TrBx.cell {w : World} {tb : Nat} {v : Value} {N : List Nd} {P : List Pth} (h : TrBx w tb v N P) : w.cell? ⟨tb, 0, none⟩ = some v := cell_of h.head 0
set_option maxRecDepth 100000 in
set_option maxHeartbeats 4000000 in
theorem kid_any {w : World} {tb : Nat} {v : Value} {N : List Nd} {P : List Pth} {n : Nat} {p : Pth} (x : Int) (h : TrBx w tb v N P) (hP : P.length ≤ 900) (hn : P[n]? = some p) (hl : p.length < 8) :
    Calls Tryd.prog 52 #[.pointer (some ⟨tb, 0, none⟩), .int .i64 (n : Int), .int .i64 x] w (KidP w tb v N P (p ++ [x])) := by
  obtain ⟨g, cap, rfl, hc1, hc2, hog⟩ := h.tree.form
  have hT := h.tree.tree
  have hnl := (List.getElem?_eq_some_iff.1 hn).1
  obtain ⟨g', y, e', hy, y1, y2, y3, y4, k2, hkr⟩ := h.tree.cells hnl
  injection e' with e'
  injection e' with e'
  subst e'
  obtain ⟨ka, kc, hyk, hk1, hk2, _, hkA, hkc⟩ := id hkr.form
  have hkl : (kidsP P n).length ≤ 900 := Nat.le_trans (length_le_of_nodup _ _ (kids_nodup P n) (fun k hk => kid_lt hk)) hP
  have kt := h.cell
  have ft := free0 h.head 0
  have HH := Lib.hid h
  have HT := Lib.hid hT
  have HN := Lib.hid hn
  have HY := Lib.hid hy
  have HYK := Lib.hid hyk
  have HKR := Lib.hid hkr
  have hnI : (n : Int) < (P.length : Int) := by omega
  have hPI : (P.length : Int) ≤ 900 := by omega
  have hklI : ((kidsP P n).length : Int) ≤ 900 := by omega
  have HCC := Lib.hid hkc
  rw [hyk] at k2
  unfold maxLen at hc2 hk2
  clear h hT hn hy hkr y1 y2 y3 y4 hyk hkA hkc
  go_enter Tryd.func52, Tryd.ntmps52
  go_wp2_with fail
  go_loopw [19] (fun iv wr => ∃ k : Nat, k ≤ (kidsP P n).length ∧ iv = .int .i64 k ∧ wr = w ∧ ∀ m ∈ (kidsP P n).take k, subP P m ≠ x) (fun iv _ => (kidsP P n).length - (intOf iv).toNat)
  case atStart => exact ⟨0, Nat.zero_le _, rfl, rfl, by simp⟩
  case round =>
    obtain ⟨k, hk, rfl, rfl, hno⟩ := hrel
    have HNO := Lib.hid hno
    by_cases hlt : k < (kidsP P n).length
    · have hx := List.getElem?_eq_getElem hlt
      have HTK : Hid ((kidsP P n).take (k + 1) = (kidsP P n).take k ++ [(kidsP P n)[k]]) := Lib.hid (List.take_succ_eq_append_getElem hlt)
      generalize (kidsP P n)[k] = m at hx HTK
      obtain ⟨gk, rfl, km⟩ := HCC.out k _ (natI_at hx)
      have hml := kid_lt (List.mem_of_getElem? hx)
      obtain ⟨g', ym, e', y0, y1, y2, s0, y3, y4, y5⟩ := HH.out.tree.cells hml
      injection e' with e'
      injection e' with e'
      subst e'
      have hps := kid_sub HT.out HN.out (List.mem_of_getElem? hx)
      generalize subP P m = sm at *
      have hi : (k : Int) < ((kidsP P n).length : Int) := by omega
      have hmI : (m : Int) < (P.length : Int) := by omega
      have HLT := Lib.hid hlt
      by_cases he : sm = x
      · subst he
        have hb : (sm == sm) = true := beq_self_eq_true _
        have hin : p ++ [sm] ∈ P := List.mem_of_getElem? hps
        have HE : Hid (addK P (p ++ [sm]) = P) := Lib.hid (by unfold addK; rw [if_pos hin])
        have HI : Hid (idxP (addK P (p ++ [sm])) (p ++ [sm]) = m) := Lib.hid (by rw [HE.out]; exact HT.out.idx hps)
        clear hx hno hk hlt y0 y1 y2 y3 y4 y5 hps hin hml
        go_wp2_with fail
        refine bodyPost_ret (v := .int .i64 m) (by simp [results, Tryd.results52, go_sem]) rfl ⟨by rw [HI.out], by rw [HE.out]; exact Grew.refl HH.out⟩
      · have hb : (sm == x) = false := by rw [beq_eq_false_iff_ne]; exact he
        have HE := Lib.hid he
        have HSM : Hid (subP P m = sm) := Lib.hid (by rw [sub_at hps]; simp)
        clear hx hno hk hlt y0 y1 y2 y3 y4 y5 hps hml he
        go_wp2_with fail
        go_roundw
        case rel => exact ⟨k + 1, HLT.out, by go_num, by first | rfl | trivial, fun m' hm' => by
          rw [HTK.out, List.mem_append, List.mem_singleton] at hm'
          rcases hm' with hm' | rfl
          · exact HNO.out m' hm'
          · rw [HSM.out]; exact HE.out⟩
        case measure => have := HLT.out; simp [intOf]; omega
    · obtain rfl : k = (kidsP P n).length := by omega
      have hnin : p ++ [x] ∉ P := fun hin => by
        obtain ⟨m, hm⟩ := List.getElem?_of_mem hin
        have hmk := HT.out.kid_of HN.out hm
        have h1 := HNO.out m (by rw [List.take_length]; exact hmk)
        rw [sub_at hm] at h1
        simp at h1
      have HNIN := Lib.hid hnin
      obtain ⟨A1, c1, w1, hrun, hh1, hmid, ht1, ho1⟩ := add_node HH.out (by omega) x (n : Int)
      have q1 := cell_of hh1 0
      have f1 := free0 hh1 0
      have hi : ¬ ((kidsP P n).length : Int) < ((kidsP P n).length : Int) := by omega
      have HMID := Lib.hid hmid
      have HT1 := Lib.hid ht1
      have HO1 := Lib.hid ho1
      clear hno hk hlt hnin hh1 hmid ht1 ho1
      go_wp2_with (at_builtin; refine wpList_app_run rfl _ _ _ _ rfl rfl rfl hrun ?_)
      obtain ⟨W2, hW2⟩ : ∃ W2, W2 = w1.setCell ⟨tb, 0, none⟩ (.slice A1 (P.length + 1) c1) := ⟨_, rfl⟩
      rw [← hW2] at HMID HT1 ⊢
      clear hW2 hrun q1 f1
      have hmid := HMID.out
      obtain ⟨g1, hA1⟩ : ∃ g1, A1 = some ⟨g1, 0, none⟩ := by
        rcases hmid.row with ⟨e, h0, _⟩ | ⟨g', c', e, _⟩
        · rw [List.length_append] at h0; simp at h0
        · injection e with e1; exact ⟨g', e1⟩
      subst hA1
      have hlen := HH.out.tree.len
      have hyM : (N ++ [newNd x (n : Int)])[n]? = some y := by rw [List.getElem?_append_left (by omega)]; exact HY.out
      have hk2' : W2.cell? ⟨g1, n * 3 + 2, none⟩ = some (.slice ka (kidsP P n).length kc) := by
        rcases hmid.row with ⟨e, _⟩ | ⟨g', c', e, _, _, hc⟩
        · cases e
        · injection e with e1
          injection e1 with e1
          injection e1 with e1
          subst e1
          rw [← HYK.out]
          exact hc.holds _ _ (ndC_at hyM).2.2
      have hkr2 := hmid.kid n y HY.out
      have hkrd : RowIs W2.drew 1 y.k (natI (kidsP P n)).length (ints (natI (kidsP P n))) := by
        rw [natI_len]
        exact hkr2.touch ((Touch.refl (fun _ => False) W2).drew) (fun _ _ e => e)
      obtain ⟨k', w3, hrk, hkr3, htk, hok⟩ := app_int (P.length : Int) 24 hkrd (by rw [natI_len]; omega)
      obtain ⟨A3, c3, hk3, _⟩ := id hkr3.form
      have eL3 : (natI (kidsP P n) ++ [(P.length : Int)]).length = (kidsP P n).length + 1 := by rw [List.length_append, natI_len]; rfl
      rw [eL3] at hk3 hkr3
      subst hk3
      have hdone := mid_done HT.out HN.out HNIN.out hl hlen HH.out.tree.nums hmid HY.out (((Touch.refl (fun k => y.k.ownBlock = some k) W2).drew).trans htk (fun k _ e => e)) hkr3 hok
      have HDONE := Lib.hid hdone
      have HOK := Lib.hid hok
      have f3 : w3.frozen? ⟨g1, n * 3 + 2, none⟩ = false ∧ ∃ u, w3.cell? ⟨g1, n * 3 + 2, none⟩ = some u := by
        have hg1 : ¬ y.k.ownBlock = some g1 := fun e => by
          rcases hmid.row with ⟨e2, _⟩ | ⟨g', c', e2, _⟩
          · cases e2
          · exact (hmid.off n y g1 HY.out e).1 rfl
        have hb := htk.block g1 (by exact heap_lt' hk2') hg1
        rw [World.frozen?_of_block (a := ⟨g1, n * 3 + 2, none⟩) hb, World.cell?_of_block (a := ⟨g1, n * 3 + 2, none⟩) hb]
        refine ⟨?_, _, hk2'⟩
        rcases hmid.row with ⟨e, _⟩ | ⟨g', c', e, _, hle, hc⟩
        · cases e
        · injection e with e1 _ e3
          injection e1 with e1
          injection e1 with e1
          subst e1
          exact (hc.there (n * 3 + 2) (by rw [List.length_append, hlen] at hle; simp at hle; omega)).2
      obtain ⟨f3, u3, q3⟩ := f3
      have kt2 := cell_of hmid.head 0
      have hS0 : (fun V : World => V.cell? ⟨tb, 0, none⟩ = some (.slice (some ⟨g1, 0, none⟩) (P.length + 1) c1) ∧ V.cell? ⟨g1, n * 3 + 2, none⟩ = some (.slice ka (kidsP P n).length kc)) W2.drew := ⟨kt2, hk2'⟩
      have HS0 := Lib.hid hS0
      rw [HYK.out] at hrk
      have HRK := Lib.hid hrk
      have HTK := Lib.hid htk
      have HMF : Hid (∀ V, Below W2.heap.size W2 V → V.cell? ⟨tb, 0, none⟩ = some (.slice (some ⟨g1, 0, none⟩) (P.length + 1) c1) ∧ V.cell? ⟨g1, n * 3 + 2, none⟩ = some (.slice ka (kidsP P n).length kc)) := Lib.hid (fun V hV => ⟨(hV.cell (p := ⟨tb, 0, none⟩) (heap_lt' kt2)).trans kt2, (hV.cell (p := ⟨g1, n * 3 + 2, none⟩) (heap_lt' hk2')).trans hk2'⟩)
      have HB2 : Hid (Below W2.heap.size W2 (W2.drew.alloc (.cells #[.int .i64 (P.length : Int)] 3))) := Lib.hid ((below_drew (Below.refl _ _)).alloc (Nat.le_refl _) _)
      have HQ3 : Hid (w3.cell? ⟨tb, 0, none⟩ = some (.slice (some ⟨g1, 0, none⟩) (P.length + 1) c1) ∧ w3.cell? ⟨g1, n * 3 + 2, none⟩ = some (.slice ka (kidsP P n).length kc)) := Lib.hid (by
        have hyo : ∀ b, y.k.ownBlock = some b → b ≠ tb := fun b hb => (hmid.off n y b HY.out hb).2
        have hg1 : ¬ y.k.ownBlock = some g1 := fun e => by
          rcases hmid.row with ⟨e2, _⟩ | ⟨g', c', e2, _⟩
          · cases e2
          · exact (hmid.off n y g1 HY.out e).1 rfl
        exact ⟨(World.cell?_of_block (a := ⟨tb, 0, none⟩) (htk.block tb (by exact heap_lt' kt2) (fun e => hyo tb e rfl))).trans kt2, (World.cell?_of_block (a := ⟨g1, n * 3 + 2, none⟩) (htk.block g1 (by exact heap_lt' hk2') hg1)).trans hk2'⟩)
      have hn1 : (n : Int) < (P.length : Int) + 1 := by omega
      clear hmid hkr2 hkrd hrk hkr3 htk hok hdone kt2 hk2' hyM hS0 hlen
      have HKE : Hid (KidP wr tb (.slice (some ⟨g, 0, none⟩) P.length cap) N P (p ++ [x]) (.returned (.int .i64 (P.length : Int))) (w3.setCell ⟨g1, n * 3 + 2, none⟩ (.slice A3 ((kidsP P n).length + 1) c3))) := Lib.hid (by
        have hT' := HT.out.add HN.out HNIN.out hl
        have hE : addK P (p ++ [x]) = P ++ [p ++ [x]] := by unfold addK; rw [if_neg HNIN.out]
        refine ⟨by rw [hE, hT'.idx (snoc_at P _)], ?_⟩
        rw [hE]
        obtain ⟨hbx, ht2⟩ := HDONE.out
        refine ⟨_, _, hbx, HT1.out.trans ht2 (fun k hk e => ?_), fun g' hg' => ?_⟩
        · rcases e with rfl | e
          · rcases HO1.out k (by rcases HMID.out.row with ⟨e2, _⟩ | ⟨g', c', e2, _⟩; cases e2; rfl) with e2 | e2
            · exact .inr (.inl e2)
            · omega
          · exact .inr (.inr ⟨y, List.mem_of_getElem? HY.out, e⟩)
        · have hw2 := HT1.out.size
          rcases hg' with e | ⟨z, hz, e⟩
          · rcases HO1.out g' e with e2 | e2
            · exact .inl (.inl e2)
            · exact .inr e2
          · rcases List.mem_or_eq_of_mem_set hz with hz | rfl
            · rcases List.mem_append.1 hz with hz | hz
              · exact .inl (.inr ⟨z, hz, e⟩)
              · rw [List.mem_singleton.1 hz] at e; cases e
            · rcases HOK.out g' e with e2 | e2
              · exact .inl (.inr ⟨y, List.mem_of_getElem? HY.out, e2⟩)
              · exact .inr (Nat.le_trans hw2 e2))
      have hk0 := HS0.out.2
      have HAL : Hid ((W2.alloc (.cells #[.int .i64 (P.length : Int)] 3)).drew.cell? ⟨g1, n * 3 + 2, none⟩ = some (.slice ka (kidsP P n).length kc)) := Lib.hid (HMF.out _ HB2.out).2
      refine wp_region_held_drew (S := fun V : World => V.cell? ⟨tb, 0, none⟩ = some (.slice (some ⟨g1, 0, none⟩) (P.length + 1) c1)) (by kernel_rfl) HS0.out.1 (fun hHeld => ?_)
      refine wpAnyH_take (i := 0) (oi := { dst := some 52, op := Op.move (Operand.tmp 0), type := 77, pos := "build.go:114", after := #[], guard := none }) (v := ?vv1) rfl (by kernel_rfl) (by kernel_rfl) (by kernel_rfl) (fun _ _ _ h => h) ?hy1 (by assumption) ?rest1
      case hy1 => (refine Or.inl ⟨by rfl, ?_⟩; intro W hSw; (try dsimp only at hSw); go_simp; (try with_reducible rfl))
      try simp only [Act.put, List.setIfInBounds_toArray, List.set_cons_zero, List.set_cons_succ]
      refine wpAnyH_take (i := 1) (oi := { dst := some 53, op := Op.nilCheck (Operand.tmp 52), type := 0, pos := "build.go:114", after := #[{ on := 0, ground := Ground.data }], guard := none }) (v := ?vv2) rfl (by kernel_rfl) (by kernel_rfl) (by kernel_rfl) (fun _ _ _ h => h) ?hy2 (by assumption) ?rest2
      case hy2 => (refine Or.inl ⟨by rfl, ?_⟩; intro W hSw; (try dsimp only at hSw); go_simp; (try with_reducible rfl))
      try simp only [Act.put, List.setIfInBounds_toArray, List.set_cons_zero, List.set_cons_succ]
      refine wpAnyH_take (i := 2) (oi := { dst := some 54, op := Op.fieldAddr 27 (Operand.tmp 53) 0, type := 0, pos := "build.go:114", after := #[{ on := 1, ground := Ground.data }], guard := none }) (v := ?vv3) rfl (by kernel_rfl) (by kernel_rfl) (by kernel_rfl) (fun _ _ _ h => h) ?hy3 (by assumption) ?rest3
      case hy3 => (refine Or.inl ⟨by rfl, ?_⟩; intro W hSw; (try dsimp only at hSw); go_simp; (try with_reducible rfl))
      try simp only [Act.put, List.setIfInBounds_toArray, List.set_cons_zero, List.set_cons_succ]
      refine wpAnyH_take (i := 3) (oi := { dst := some 55, op := Op.load 25 (Operand.tmp 54), type := 25, pos := "build.go:114", after := #[{ on := 2, ground := Ground.data }], guard := none }) (v := ?vv4) rfl (by kernel_rfl) (by kernel_rfl) (by kernel_rfl) (fun _ _ _ h => h) ?hy4 (by assumption) ?rest4
      case hy4 => (refine Or.inl ⟨by rfl, ?_⟩; intro W hSw; (try dsimp only at hSw); go_simp; (try with_reducible rfl))
      try simp only [Act.put, List.setIfInBounds_toArray, List.set_cons_zero, List.set_cons_succ]
      refine wpAnyH_take (i := 4) (oi := { dst := some 56, op := Op.move (Operand.tmp 1), type := 3, pos := "build.go:114", after := #[], guard := none }) (v := ?vv5) rfl (by kernel_rfl) (by kernel_rfl) (by kernel_rfl) (fun _ _ _ h => h) ?hy5 (by assumption) ?rest5
      case hy5 => (refine Or.inl ⟨by rfl, ?_⟩; intro W hSw; (try dsimp only at hSw); go_simp; (try with_reducible rfl))
      try simp only [Act.put, List.setIfInBounds_toArray, List.set_cons_zero, List.set_cons_succ]
      refine wpAnyH_take (i := 5) (oi := { dst := some 57, op := Op.move (Operand.tmp 0), type := 77, pos := "build.go:114", after := #[], guard := none }) (v := ?vv6) rfl (by kernel_rfl) (by kernel_rfl) (by kernel_rfl) (fun _ _ _ h => h) ?hy6 (by assumption) ?rest6
      case hy6 => (refine Or.inl ⟨by rfl, ?_⟩; intro W hSw; (try dsimp only at hSw); go_simp; (try with_reducible rfl))
      try simp only [Act.put, List.setIfInBounds_toArray, List.set_cons_zero, List.set_cons_succ]
      refine wpAnyH_take (i := 6) (oi := { dst := some 58, op := Op.nilCheck (Operand.tmp 57), type := 0, pos := "build.go:114", after := #[{ on := 5, ground := Ground.data }], guard := none }) (v := ?vv7) rfl (by kernel_rfl) (by kernel_rfl) (by kernel_rfl) (fun _ _ _ h => h) ?hy7 (by assumption) ?rest7
      case hy7 => (refine Or.inl ⟨by rfl, ?_⟩; intro W hSw; (try dsimp only at hSw); go_simp; (try with_reducible rfl))
      try simp only [Act.put, List.setIfInBounds_toArray, List.set_cons_zero, List.set_cons_succ]
      refine wpAnyH_take (i := 7) (oi := { dst := some 59, op := Op.fieldAddr 27 (Operand.tmp 58) 0, type := 0, pos := "build.go:114", after := #[{ on := 6, ground := Ground.data }], guard := none }) (v := ?vv8) rfl (by kernel_rfl) (by kernel_rfl) (by kernel_rfl) (fun _ _ _ h => h) ?hy8 (by assumption) ?rest8
      case hy8 => (refine Or.inl ⟨by rfl, ?_⟩; intro W hSw; (try dsimp only at hSw); go_simp; (try with_reducible rfl))
      try simp only [Act.put, List.setIfInBounds_toArray, List.set_cons_zero, List.set_cons_succ]
      refine wpAnyH_take (i := 8) (oi := { dst := some 60, op := Op.load 25 (Operand.tmp 59), type := 25, pos := "build.go:114", after := #[{ on := 7, ground := Ground.data }], guard := none }) (v := ?vv9) rfl (by kernel_rfl) (by kernel_rfl) (by kernel_rfl) (fun _ _ _ h => h) ?hy9 (by assumption) ?rest9
      case hy9 => (refine Or.inl ⟨by rfl, ?_⟩; intro W hSw; (try dsimp only at hSw); go_simp; (try with_reducible rfl))
      try simp only [Act.put, List.setIfInBounds_toArray, List.set_cons_zero, List.set_cons_succ]
      refine wpAnyH_take (i := 9) (oi := { dst := some 61, op := Op.move (Operand.tmp 1), type := 3, pos := "build.go:114", after := #[], guard := none }) (v := ?vv10) rfl (by kernel_rfl) (by kernel_rfl) (by kernel_rfl) (fun _ _ _ h => h) ?hy10 (by assumption) ?rest10
      case hy10 => (refine Or.inl ⟨by rfl, ?_⟩; intro W hSw; (try dsimp only at hSw); go_simp; (try with_reducible rfl))
      try simp only [Act.put, List.setIfInBounds_toArray, List.set_cons_zero, List.set_cons_succ]
      refine wpAnyH_take (i := 10) (oi := { dst := some 62, op := Op.indexAddr 25 (Operand.tmp 60) (Operand.tmp 61), type := 0, pos := "build.go:114", after := #[{ on := 8, ground := Ground.data }, { on := 9, ground := Ground.data }], guard := none }) (v := ?vv11) rfl (by kernel_rfl) (by kernel_rfl) (by kernel_rfl) (fun _ _ _ h => h) ?hy11 (by assumption) ?rest11
      case hy11 => (refine Or.inl ⟨by rfl, ?_⟩; intro W hSw; (try dsimp only at hSw); go_simp; (try with_reducible rfl))
      try simp only [Act.put, List.setIfInBounds_toArray, List.set_cons_zero, List.set_cons_succ]
      refine wpAnyH_take (i := 11) (oi := { dst := some 63, op := Op.fieldAddr 52 (Operand.tmp 62) 2, type := 0, pos := "build.go:114", after := #[{ on := 10, ground := Ground.data }], guard := none }) (v := ?vv12) rfl (by kernel_rfl) (by kernel_rfl) (by kernel_rfl) (fun _ _ _ h => h) ?hy12 (by assumption) ?rest12
      case hy12 => (refine Or.inl ⟨by rfl, ?_⟩; intro W hSw; (try dsimp only at hSw); go_simp; (try with_reducible rfl))
      try simp only [Act.put, List.setIfInBounds_toArray, List.set_cons_zero, List.set_cons_succ]
      refine wpAnyH_take (i := 13) (oi := { dst := some 65, op := Op.move (Operand.tmp 9), type := 3, pos := "build.go:114", after := #[], guard := none }) (v := ?vv13) rfl (by kernel_rfl) (by kernel_rfl) (by kernel_rfl) (fun _ _ _ h => h) ?hy13 (by assumption) ?rest13
      case hy13 => (refine Or.inl ⟨by rfl, ?_⟩; intro W hSw; (try dsimp only at hSw); go_simp; (try with_reducible rfl))
      try simp only [Act.put, List.setIfInBounds_toArray, List.set_cons_zero, List.set_cons_succ]
      refine wpAnyH_ready (rs := [12, 14]) (by kernel_rfl) (by simp) ?_
      have hend := HDONE.out
      have HTBX : Hid ((w3.setCell ⟨g1, n * 3 + 2, none⟩ (.slice A3 ((kidsP P n).length + 1) c3)).cell? ⟨tb, 0, none⟩ = some (.slice (some ⟨g1, 0, none⟩) (P.length + 1) c1)) := Lib.hid (cell_of hend.1.head 0)
      clear hend
      refine AllReadyH.cons (o := { dst := some 64, op := Op.load 24 (Operand.tmp 63), type := 24, pos := "build.go:114", after := #[{ on := 11, ground := Ground.data }], guard := none }) rfl (fun K hK => ?step14) ?more14
      ((go_simp))
      refine hK.out _ _ ?hS14 (fun hHeld => ?rr14)
      case hS14 => (exact HS0.out.1)
      clear hK K
      try simp only [Act.put, List.setIfInBounds_toArray, List.set_cons_zero, List.set_cons_succ]
      · refine wpAnyH_ready (rs := [14]) (by kernel_rfl) (by simp) ?_
        refine AllReadyH.cons (o := { dst := some 66, op := Op.buildSlice 24 1 #[(0, Operand.tmp 65)], type := 24, pos := "build.go:114", after := #[{ on := 13, ground := Ground.data }], guard := none }) rfl (fun K hK => ?step15) ?more15
        case more15 => exact AllReadyH.nil
        ((go_simp))
        refine hK.out _ _ ?hS15 (fun hHeld => ?rr15)
        case hS15 => (exact (HMF.out _ HB2.out).1)
        clear hK K
        try simp only [Act.put, List.setIfInBounds_toArray, List.set_cons_zero, List.set_cons_succ]
        refine wpAnyH_ready (rs := [15]) (by kernel_rfl) (by simp) ?_
        refine AllReadyH.cons (o := { dst := some 67, op := Op.call { callee := Callee.builtin Builtin.append, args := #[Operand.tmp 64, Operand.tmp 66], argTypes := #[24, 24] }, type := 24, pos := "build.go:114", after := #[{ on := 12, ground := Ground.data }, { on := 14, ground := Ground.data }], guard := none }) rfl (fun K hK => ?step16) ?more16
        case more16 => exact AllReadyH.nil
        (refine step_app_run HRK.out rfl (.tmp 64) (.tmp 66) rfl rfl rfl ?_)
        refine hK.out _ _ ?hS16 (fun hHeld => ?rr16)
        case hS16 => (exact HQ3.out.1)
        clear hK K
        try simp only [Act.put, List.setIfInBounds_toArray, List.set_cons_zero, List.set_cons_succ]
        refine wpAnyH_take (i := 16) (oi := { dst := some 68, op := Op.indexAddr 25 (Operand.tmp 55) (Operand.tmp 56), type := 0, pos := "build.go:114", after := #[{ on := 3, ground := Ground.data }, { on := 4, ground := Ground.data }, { on := 0, ground := Ground.phase }, { on := 1, ground := Ground.phase }, { on := 2, ground := Ground.phase }, { on := 3, ground := Ground.phase }, { on := 4, ground := Ground.phase }, { on := 5, ground := Ground.phase }, { on := 6, ground := Ground.phase }, { on := 7, ground := Ground.phase }, { on := 8, ground := Ground.phase }, { on := 9, ground := Ground.phase }, { on := 10, ground := Ground.phase }, { on := 11, ground := Ground.phase }, { on := 12, ground := Ground.phase }, { on := 13, ground := Ground.phase }, { on := 14, ground := Ground.phase }, { on := 15, ground := Ground.phase }], guard := none }) (v := ?vv17) rfl (by kernel_rfl) (by kernel_rfl) (by kernel_rfl) (fun _ _ _ h => h) ?hy17 (by assumption) ?rest17
        case hy17 => (refine Or.inl ⟨by rfl, ?_⟩; intro W hSw; (try dsimp only at hSw); go_simp; (try with_reducible rfl))
        try simp only [Act.put, List.setIfInBounds_toArray, List.set_cons_zero, List.set_cons_succ]
        refine wpAnyH_take (i := 17) (oi := { dst := some 69, op := Op.fieldAddr 52 (Operand.tmp 68) 2, type := 0, pos := "build.go:114", after := #[{ on := 16, ground := Ground.data }, { on := 0, ground := Ground.phase }, { on := 1, ground := Ground.phase }, { on := 2, ground := Ground.phase }, { on := 3, ground := Ground.phase }, { on := 4, ground := Ground.phase }, { on := 5, ground := Ground.phase }, { on := 6, ground := Ground.phase }, { on := 7, ground := Ground.phase }, { on := 8, ground := Ground.phase }, { on := 9, ground := Ground.phase }, { on := 10, ground := Ground.phase }, { on := 11, ground := Ground.phase }, { on := 12, ground := Ground.phase }, { on := 13, ground := Ground.phase }, { on := 14, ground := Ground.phase }, { on := 15, ground := Ground.phase }], guard := none }) (v := ?vv18) rfl (by kernel_rfl) (by kernel_rfl) (by kernel_rfl) (fun _ _ _ h => h) ?hy18 (by assumption) ?rest18
        case hy18 => (refine Or.inl ⟨by rfl, ?_⟩; intro W hSw; (try dsimp only at hSw); go_simp; (try with_reducible rfl))
        try simp only [Act.put, List.setIfInBounds_toArray, List.set_cons_zero, List.set_cons_succ]
        refine wpAnyH_ready (rs := [18]) (by kernel_rfl) (by simp) ?_
        refine AllReadyH.cons (o := { dst := none, op := Op.store 24 (Operand.tmp 69) (Operand.tmp 67), type := 0, pos := "build.go:114", after := #[{ on := 17, ground := Ground.data }, { on := 15, ground := Ground.data }, { on := 15, ground := Ground.chain }, { on := 0, ground := Ground.phase }, { on := 1, ground := Ground.phase }, { on := 2, ground := Ground.phase }, { on := 3, ground := Ground.phase }, { on := 4, ground := Ground.phase }, { on := 5, ground := Ground.phase }, { on := 6, ground := Ground.phase }, { on := 7, ground := Ground.phase }, { on := 8, ground := Ground.phase }, { on := 9, ground := Ground.phase }, { on := 10, ground := Ground.phase }, { on := 11, ground := Ground.phase }, { on := 12, ground := Ground.phase }, { on := 13, ground := Ground.phase }, { on := 14, ground := Ground.phase }, { on := 15, ground := Ground.phase }], guard := none }) rfl (fun K hK => ?step19) ?more19
        case more19 => exact AllReadyH.nil
        ((go_simp))
        refine hK.out _ _ ?hS19 (fun hHeld => ?rr19)
        case hS19 => (exact HTBX.out)
        clear hK K
        try simp only [Act.put, List.setIfInBounds_toArray, List.set_cons_zero, List.set_cons_succ]
        refine wpAnyH_done (by kernel_rfl) ?_ _
        go_wp2_with fail
        refine bodyPost_ret (v := .int .i64 (P.length : Int)) (by simp [results, Tryd.results52, go_sem]) rfl ?_
        exact HKE.out
      · refine AllReadyH.cons (o := { dst := some 66, op := Op.buildSlice 24 1 #[(0, Operand.tmp 65)], type := 24, pos := "build.go:114", after := #[{ on := 13, ground := Ground.data }], guard := none }) rfl (fun K hK => ?step20) ?more20
        case more20 => exact AllReadyH.nil
        ((go_simp))
        refine hK.out _ _ ?hS20 (fun hHeld => ?rr20)
        case hS20 => (exact (HMF.out _ HB2.out).1)
        clear hK K
        try simp only [Act.put, List.setIfInBounds_toArray, List.set_cons_zero, List.set_cons_succ]
        have hk1 := HAL.out
        refine wpAnyH_ready (rs := [12]) (by kernel_rfl) (by simp) ?_
        refine AllReadyH.cons (o := { dst := some 64, op := Op.load 24 (Operand.tmp 63), type := 24, pos := "build.go:114", after := #[{ on := 11, ground := Ground.data }], guard := none }) rfl (fun K hK => ?step21) ?more21
        case more21 => exact AllReadyH.nil
        ((go_simp))
        refine hK.out _ _ ?hS21 (fun hHeld => ?rr21)
        case hS21 => (exact (HMF.out _ HB2.out).1)
        clear hK K
        try simp only [Act.put, List.setIfInBounds_toArray, List.set_cons_zero, List.set_cons_succ]
        refine wpAnyH_ready (rs := [15]) (by kernel_rfl) (by simp) ?_
        refine AllReadyH.cons (o := { dst := some 67, op := Op.call { callee := Callee.builtin Builtin.append, args := #[Operand.tmp 64, Operand.tmp 66], argTypes := #[24, 24] }, type := 24, pos := "build.go:114", after := #[{ on := 12, ground := Ground.data }, { on := 14, ground := Ground.data }], guard := none }) rfl (fun K hK => ?step22) ?more22
        case more22 => exact AllReadyH.nil
        (refine step_app_run HRK.out rfl (.tmp 64) (.tmp 66) rfl rfl rfl ?_)
        refine hK.out _ _ ?hS22 (fun hHeld => ?rr22)
        case hS22 => (exact HQ3.out.1)
        clear hK K
        try simp only [Act.put, List.setIfInBounds_toArray, List.set_cons_zero, List.set_cons_succ]
        refine wpAnyH_take (i := 16) (oi := { dst := some 68, op := Op.indexAddr 25 (Operand.tmp 55) (Operand.tmp 56), type := 0, pos := "build.go:114", after := #[{ on := 3, ground := Ground.data }, { on := 4, ground := Ground.data }, { on := 0, ground := Ground.phase }, { on := 1, ground := Ground.phase }, { on := 2, ground := Ground.phase }, { on := 3, ground := Ground.phase }, { on := 4, ground := Ground.phase }, { on := 5, ground := Ground.phase }, { on := 6, ground := Ground.phase }, { on := 7, ground := Ground.phase }, { on := 8, ground := Ground.phase }, { on := 9, ground := Ground.phase }, { on := 10, ground := Ground.phase }, { on := 11, ground := Ground.phase }, { on := 12, ground := Ground.phase }, { on := 13, ground := Ground.phase }, { on := 14, ground := Ground.phase }, { on := 15, ground := Ground.phase }], guard := none }) (v := ?vv23) rfl (by kernel_rfl) (by kernel_rfl) (by kernel_rfl) (fun _ _ _ h => h) ?hy23 (by assumption) ?rest23
        case hy23 => (refine Or.inl ⟨by rfl, ?_⟩; intro W hSw; (try dsimp only at hSw); go_simp; (try with_reducible rfl))
        try simp only [Act.put, List.setIfInBounds_toArray, List.set_cons_zero, List.set_cons_succ]
        refine wpAnyH_take (i := 17) (oi := { dst := some 69, op := Op.fieldAddr 52 (Operand.tmp 68) 2, type := 0, pos := "build.go:114", after := #[{ on := 16, ground := Ground.data }, { on := 0, ground := Ground.phase }, { on := 1, ground := Ground.phase }, { on := 2, ground := Ground.phase }, { on := 3, ground := Ground.phase }, { on := 4, ground := Ground.phase }, { on := 5, ground := Ground.phase }, { on := 6, ground := Ground.phase }, { on := 7, ground := Ground.phase }, { on := 8, ground := Ground.phase }, { on := 9, ground := Ground.phase }, { on := 10, ground := Ground.phase }, { on := 11, ground := Ground.phase }, { on := 12, ground := Ground.phase }, { on := 13, ground := Ground.phase }, { on := 14, ground := Ground.phase }, { on := 15, ground := Ground.phase }], guard := none }) (v := ?vv24) rfl (by kernel_rfl) (by kernel_rfl) (by kernel_rfl) (fun _ _ _ h => h) ?hy24 (by assumption) ?rest24
        case hy24 => (refine Or.inl ⟨by rfl, ?_⟩; intro W hSw; (try dsimp only at hSw); go_simp; (try with_reducible rfl))
        try simp only [Act.put, List.setIfInBounds_toArray, List.set_cons_zero, List.set_cons_succ]
        refine wpAnyH_ready (rs := [18]) (by kernel_rfl) (by simp) ?_
        refine AllReadyH.cons (o := { dst := none, op := Op.store 24 (Operand.tmp 69) (Operand.tmp 67), type := 0, pos := "build.go:114", after := #[{ on := 17, ground := Ground.data }, { on := 15, ground := Ground.data }, { on := 15, ground := Ground.chain }, { on := 0, ground := Ground.phase }, { on := 1, ground := Ground.phase }, { on := 2, ground := Ground.phase }, { on := 3, ground := Ground.phase }, { on := 4, ground := Ground.phase }, { on := 5, ground := Ground.phase }, { on := 6, ground := Ground.phase }, { on := 7, ground := Ground.phase }, { on := 8, ground := Ground.phase }, { on := 9, ground := Ground.phase }, { on := 10, ground := Ground.phase }, { on := 11, ground := Ground.phase }, { on := 12, ground := Ground.phase }, { on := 13, ground := Ground.phase }, { on := 14, ground := Ground.phase }, { on := 15, ground := Ground.phase }], guard := none }) rfl (fun K hK => ?step25) ?more25
        case more25 => exact AllReadyH.nil
        ((go_simp))
        refine hK.out _ _ ?hS25 (fun hHeld => ?rr25)
        case hS25 => (exact HTBX.out)
        clear hK K
        try simp only [Act.put, List.setIfInBounds_toArray, List.set_cons_zero, List.set_cons_succ]
        refine wpAnyH_done (by kernel_rfl) ?_ _
        go_wp2_with fail
        refine bodyPost_ret (v := .int .i64 (P.length : Int)) (by simp [results, Tryd.results52, go_sem]) rfl ?_
        exact HKE.out
end Go.Proofs.YtpploljennbpdaaDoor
