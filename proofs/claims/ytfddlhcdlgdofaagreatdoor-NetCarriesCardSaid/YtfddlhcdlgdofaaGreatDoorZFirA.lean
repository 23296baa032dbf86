/- fault.First at every slice of errors. The box: a request is put into its map. The box: Put. -/
import Derived.Test.YtfddlhcdlgdofaaGreatDoorZErrB
import Derived.Test.YtfddlhcdlgdofaaGreatDoorZPosF
set_option linter.unusedSimpArgs false
set_option linter.unusedVariables false
set_option linter.unnecessarySimpa false
namespace Go.Proofs.YtfddlhcdlgdofaaGreatDoor
open Go.RowKit

/-- A slice value that reads as errors. -/
def ErrsIs (w : World) (v : Value) (vs : List Value) : Prop :=
  (v = .slice none 0 0 ∧ vs = []) ∨ ∃ b cap, v = .slice (some ⟨b, 0, none⟩) vs.length cap ∧ vs.length ≤ 1000 ∧ (∀ i x, vs[i]? = some x → w.cell? ⟨b, i, none⟩ = some x) ∧ ∀ x ∈ vs, x = .nilIface ∨ ∃ t u, x = .iface t u
def firstV : List Value → Value
  | [] => .nilIface
  | .nilIface :: r => firstV r
  | x :: _ => x
theorem firstV_skip {vs : List Value} {k : Nat} (h : ∀ i x, i < k → vs[i]? = some x → x = .nilIface) : firstV vs = firstV (vs.drop k) := by
  induction k generalizing vs with
  | zero => rfl
  | succ k ih =>
    cases vs with
    | nil => rfl
    | cons x r =>
      obtain rfl := h 0 x (by omega) rfl
      rw [firstV]
      exact ih (fun i y hi hy => h (i + 1) y (by omega) (by simpa using hy))
set_option maxRecDepth 100000 in
set_option maxHeartbeats 2000000 in
theorem firstE_any {w : World} {v : Value} {vs : List Value} (h : ErrsIs w v vs) : Calls Tryz.prog 89 #[v] w fun e w' => e = .returned (firstV vs) ∧ w = w' := by
  rcases h with ⟨rfl, rfl⟩ | ⟨b, cap, rfl, hl, hc, hf⟩
  · go_enter Tryz.func89, Tryz.ntmps89
    go_wp2
    refine wp_loop_rounds 1 ?_
    rw [rounds_succ]
    go_wp2
    go_ret
    exact ⟨rfl, rfl⟩
  · go_enter Tryz.func89, Tryz.ntmps89
    go_wp2_with fail
    go_loop [7] (fun i => ∃ k : Nat, k ≤ vs.length ∧ i = .int .i64 k ∧ ∀ i x, i < k → vs[i]? = some x → x = .nilIface) (fun i => vs.length - (intOf i).toNat)
    case atStart => exact ⟨0, by omega, rfl, fun i x hi _ => by omega⟩
    case round =>
      obtain ⟨k, hk, rfl, hpre⟩ := hrel
      have HP := Lib.hid hpre
      by_cases hlt : k < vs.length
      · have hx : vs[k]? = some vs[k] := List.getElem?_eq_getElem hlt
        generalize vs[k] = x at hx
        have c0 := hc k x hx
        have HX := Lib.hid hx
        have hdrop : Hid (vs.drop k = x :: vs.drop (k + 1)) := by
          show vs.drop k = x :: vs.drop (k + 1)
          rw [List.drop_eq_getElem_cons hlt, (List.getElem?_eq_some_iff.1 hx).2]
        rcases hf x (List.mem_of_getElem? hx) with rfl | ⟨t, u, rfl⟩
        · have HN : Hid (∀ i x, i < k + 1 → vs[i]? = some x → x = .nilIface) := by
            intro i y hi hy
            by_cases hik : i < k
            · exact hpre i y hik hy
            · obtain rfl : i = k := by omega
              rw [hx] at hy; cases hy; rfl
          clear hx hpre hc hf
          go_wp2
          go_round
          case rel => exact ⟨k + 1, by omega, by go_num, HN.out⟩
          case measure => simp [intOf]; omega
        · clear hx hpre hc hf
          go_wp2
          go_ret
          exact ⟨by rw [firstV_skip HP.out, hdrop.out]; rfl, rfl⟩
      · obtain rfl : k = vs.length := by omega
        clear hpre hc hf
        go_wp2
        go_ret
        exact ⟨by rw [firstV_skip HP.out, List.drop_length]; rfl, rfl⟩

end Go.Proofs.YtfddlhcdlgdofaaGreatDoor

namespace Go.Proofs.YtfddlhcdlgdofaaGreatDoor
open Go.RowKit Go.Shelf

theorem pstep_look_run {P : Program} {ops : Array Oper} {o : Oper} {a : Act} {w wa : World} {K : Act → World → Prop} {Q : Exit → Act → World → Prop} {E : Prop} {M : TypeId} {m x v : Value} {c : Bool}
    (hrun : (Instr.lookup M m x c).run P w = .ok v wa) (hgd : o.guard = none) (mo xo : Operand) (ho : o.op = Op.lookup M mo xo c) (hm : a.eval mo = m) (hx : a.eval xo = x) (h : K (a.put o.dst v) wa) : if Region.wanted o (yielded ops a.tmps) = true then Oper.wp P o a w K Q else E := by
  have hw : Region.wanted o (yielded ops a.tmps) = true := by simp [Region.wanted, hgd]
  rw [if_pos hw]
  unfold Oper.wp
  simp only [execOp, ho, hm, hx, Sem.run_bind, Sem.run_pure, hrun, Result.andThen]
  exact h
theorem pstep_put_run {P : Program} {ops : Array Oper} {o : Oper} {a : Act} {w wa : World} {K : Act → World → Prop} {Q : Exit → Act → World → Prop} {E : Prop} {M : TypeId} {m x v : Value}
    (hrun : (Instr.mapUpdate M m x v).run P w = .ok () wa) (hgd : o.guard = none) (mo xo vo : Operand) (ho : o.op = Op.mapUpdate M mo xo vo) (hm : a.eval mo = m) (hx : a.eval xo = x) (hv : a.eval vo = v) (h : K (a.put o.dst undef) wa) : if Region.wanted o (yielded ops a.tmps) = true then Oper.wp P o a w K Q else E := by
  have hw : Region.wanted o (yielded ops a.tmps) = true := by simp [Region.wanted, hgd]
  rw [if_pos hw]
  unfold Oper.wp
  simp only [execOp, ho, hm, hx, hv, Sem.run_bind, hrun, Result.andThen]
  exact h
/-- What a Put makes of the requests. -/
def PutS (L : List Rq) (n : Rq) (L' : List Rq) : Prop := (∃ (j : Nat) (x : Rq), L[j]? = some x ∧ x.m.g = n.m.g ∧ L' = L.set j n) ∨ ((∀ e ∈ L, e.m.g ≠ n.m.g) ∧ L' = L ++ [n])
theorem PutS.mem {L L' : List Rq} {n : Rq} (h : PutS L n L') : ∀ e ∈ L', e ∈ L ∨ e = n := by
  intro e he
  rcases h with ⟨j, x, _, _, rfl⟩ | ⟨_, rfl⟩
  · exact List.mem_or_eq_of_mem_set he
  · rcases List.mem_append.1 he with h | h
    · exact .inl h
    · exact .inr (by simpa using h)
section
variable {w : World} {b mp : Nat} {ev : Int} {L : List Rq} {c : Nat} {R : Nat → Prop}
theorem BoxAt.put (h : BoxAt w b mp ev L c R) {W : World} (hb : Below w.heap.size w W) (n : Rq) (hn : W.heap[n.rb]? = some (.cells n.cells 155 (0, 0))) (hrb : w.heap.size ≤ n.rb)
    (ht : NumsAt W (.slice n.tA n.m.tl.length n.tc) n.m.tl) (ho : OpsAt W (.slice n.oA n.m.os.length n.oc) n.m.os) (hk : KeysIn n.m.os) (hm : mayM n.m = true)
    (fT : ∀ a, n.tA = some a → w.heap.size ≤ a.block ∧ a.block ≠ n.rb) (fO : ∀ a, n.oA = some a → w.heap.size ≤ a.block ∧ a.block ≠ n.rb) :
    ∃ W' L' c' bn, (Instr.mapUpdate 141 (.map (some mp)) (.int .i64 n.m.g) (.pointer (some ⟨n.rb, 0, none⟩))).run Tryz.prog W = .ok () W' ∧ BoxAt W' b mp ev L' c' (fun k => R k ∨ k = n.rb) ∧ PutS L { n with born := bn } L' ∧ Touch (fun k => k = mp) W W' := by
  have hW := h.below hb
  have hg := mayM_g hm
  have hmlt := h.map.lt
  have core : ∀ (W' : World) (L' : List Rq) (c' bn : Nat), PutS L { n with born := bn } L' → Touch (fun k => k = mp) W W' → MapIs Tryz.prog 3 W' mp (L'.map Rq.me) c' → BoxAt W' b mp ev L' c' (fun k => R k ∨ k = n.rb) := by
    intro W' L' c' bn hP hT hM
    have hmem := hP.mem
    have hne : n.rb ≠ mp := by omega
    refine ⟨?_, hM, fun e he => ?_, fun e he => ?_, fun e he => ?_, fun e he => ?_, fun e he => ?_, fun e he hl a ha => ?_, fun e he hl a ha => ?_, fun e he => ?_, fun k hk => ?_, ?_, ?_⟩
    · exact (hT.block _ (heap_lt hW.head) hW.offR.2.2).trans hW.head
    · rcases hmem e he with h1 | rfl
      · exact (hT.block _ (heap_lt (hW.req e h1)) (fun q => hW.offR.1 (q ▸ hW.inR e h1))).trans (hW.req e h1)
      · exact (hT.block _ (heap_lt hn) hne).trans hn
    · rcases hmem e he with h1 | rfl
      · exact (hW.tl e h1).touch hT (fun hl a ha => (h.farT e h1 hl a ha).2)
      · exact ht.touch hT (fun _ a ha q => by have := (fT a ha).1; omega)
    · rcases hmem e he with h1 | rfl
      · exact (hW.os e h1).touch hT (fun hl a ha => (h.farO e h1 hl a ha).2)
      · exact ho.touch hT (fun _ a ha q => by have := (fO a ha).1; omega)
    · rcases hmem e he with h1 | rfl
      · exact h.keys e h1
      · exact hk
    · rcases hmem e he with h1 | rfl
      · exact h.may e h1
      · exact hm
    · rcases hmem e he with h1 | rfl
      · refine ⟨fun q => ?_, (h.farT e h1 hl a ha).2⟩
        rcases q with q | q
        · exact (h.farT e h1 hl a ha).1 q
        · have hlt : a.block < w.heap.size := by
            obtain ⟨A', c', e', h2, h3, h4⟩ := h.tl e h1
            cases hx : e.m.tl with
            | nil => exact absurd hx hl
            | cons x r =>
              obtain ⟨a', q1, q2, _⟩ := h4 0 x (by rw [hx]; rfl)
              have : e.tA = A' := by injection e'
              rw [← this, ha] at q1
              cases q1
              exact q2
          omega
      · have := fT a ha
        refine ⟨fun q => ?_, by omega⟩
        rcases q with q | q
        · have := h.ltR _ q; omega
        · exact this.2 q
    · rcases hmem e he with h1 | rfl
      · refine ⟨fun q => ?_, (h.farO e h1 hl a ha).2⟩
        rcases q with q | q
        · exact (h.farO e h1 hl a ha).1 q
        · have hlt : a.block < w.heap.size := by
            obtain ⟨A', c', e', h2, h3, h4⟩ := (h.os e h1).form
            cases hx : e.m.os with
            | nil => exact absurd hx hl
            | cons x r =>
              obtain ⟨a', q1, q2, _⟩ := h4 0 x (by rw [hx]; rfl)
              have : e.oA = A' := by injection e'
              rw [← this, ha] at q1
              cases q1
              exact q2
          omega
      · have := fO a ha
        refine ⟨fun q => ?_, by omega⟩
        rcases q with q | q
        · have := h.ltR _ q; omega
        · exact this.2 q
    · rcases hmem e he with h1 | rfl
      · exact .inl (h.inR e h1)
      · exact .inr rfl
    · rcases hk with q | q
      · exact Nat.lt_of_lt_of_le (Nat.lt_of_lt_of_le (h.ltR k q) hb.size) hT.size
      · rw [q]; exact Nat.lt_of_lt_of_le (heap_lt hn) hT.size
    · refine ⟨fun q => ?_, fun q => ?_, h.offR.2.2⟩
      · rcases q with q | q
        · exact h.offR.1 q
        · exact hne q.symm
      · rcases q with q | q
        · exact h.offR.2.1 q
        · have := heap_lt h.head; omega
    · have hold : ∀ e ∈ L, e.rb ≠ n.rb := fun e he q => by have := h.ltR _ (h.inR e he); omega
      intro i j x y hx hy hxy
      rcases hP with ⟨p, z, hz, _, rfl⟩ | ⟨_, rfl⟩
      · rw [List.getElem?_set] at hx hy
        split at hx
        · split at hy
          · omega
          · split at hx
            · cases hx
              exact absurd hxy.symm (hold y (List.mem_of_getElem? hy))
            · cases hx
        · split at hy
          · split at hy
            · cases hy
              exact absurd hxy (hold x (List.mem_of_getElem? hx))
            · cases hy
          · exact h.one i j x y hx hy hxy
      · rw [List.getElem?_append] at hx hy
        split at hx
        · split at hy
          · exact h.one i j x y hx hy hxy
          · have : y = { n with born := bn } := by
              have := List.mem_of_getElem? hy
              simpa using this
            subst this
            exact absurd hxy (hold x (List.mem_of_getElem? hx))
        · split at hy
          · have : x = { n with born := bn } := by
              have := List.mem_of_getElem? hx
              simpa using this
            subst this
            exact absurd hxy.symm (hold y (List.mem_of_getElem? hy))
          · have h1 := (List.getElem?_eq_some_iff.1 hx).1
            have h2 := (List.getElem?_eq_some_iff.1 hy).1
            simp at h1 h2
            omega
  rcases rq_cases L n.m.g with ⟨j, x, hj, hx⟩ | hno
  · obtain ⟨r1, r2⟩ := hW.map.put_hit keyedP Tryz.underlying141 (x := .int .i64 n.m.g) (v := .pointer (some ⟨n.rb, 0, none⟩)) (key_g (by omega) (by omega)) (rme_at hj) (by rw [← hx]; rfl)
    have hP : PutS L { n with born := x.born } (L.set j { n with born := x.born }) := .inl ⟨j, x, hj, hx, rfl⟩
    refine ⟨_, _, c, x.born, r1, core _ _ _ _ hP ((Touch.refl (fun k => k = mp) W).set mp _ (fun _ => rfl)) ?_, hP, (Touch.refl (fun k => k = mp) W).set mp _ (fun _ => rfl)⟩
    have e1 : (L.set j { n with born := x.born }).map Rq.me = (L.map Rq.me).set j { x.me with val := .pointer (some ⟨n.rb, 0, none⟩) } := by
      have e0 : Rq.me { n with born := x.born } = { x.me with val := .pointer (some ⟨n.rb, 0, none⟩) } := by
        show (⟨Value.int .i64 n.m.g, Value.pointer (some ⟨n.rb, 0, none⟩), x.born⟩ : MapEntry) = ⟨Value.int .i64 x.m.g, Value.pointer (some ⟨n.rb, 0, none⟩), x.born⟩
        rw [hx]
      rw [map_set', e0]
    rw [e1]
    exact r2
  · obtain ⟨r1, r2⟩ := hW.map.put_miss keyedP Tryz.underlying141 (x := .int .i64 n.m.g) (v := .pointer (some ⟨n.rb, 0, none⟩)) (key_g (by omega) (by omega)) (rme_miss hno)
    have hP : PutS L { n with born := c } (L ++ [{ n with born := c }]) := .inr ⟨hno, rfl⟩
    refine ⟨_, _, c + 1, c, r1, core _ _ _ _ hP ((Touch.refl (fun k => k = mp) W).set mp _ (fun _ => rfl)) ?_, hP, (Touch.refl (fun k => k = mp) W).set mp _ (fun _ => rfl)⟩
    have e1 : (L ++ [{ n with born := c }]).map Rq.me = L.map Rq.me ++ [(⟨.int .i64 n.m.g, .pointer (some ⟨n.rb, 0, none⟩), c⟩ : MapEntry)] := by
      rw [List.map_append]
      rfl
    rw [e1]
    exact r2
end
end Go.Proofs.YtfddlhcdlgdofaaGreatDoor

namespace Go.Proofs.YtfddlhcdlgdofaaGreatDoor
open Go.RowKit Go.Shelf

theorem Glob.touch {S : Nat → Prop} {w w' : World} (h : Glob w) (ht : Touch S w w') (hS : ¬ S 1) : Glob w' := by
  unfold Glob
  rw [World.cell?_of_block (a := ⟨1, 0, none⟩) (ht.block _ h.lt hS)]
  exact h
/-- within, whatever comes. -/
theorem pwithin_any {w : World} (lo hi n : Int) : Calls Tryz.prog 79 #[.int .i64 lo, .int .i64 hi, .int .i64 n] w fun e w' => ∃ v ch, e = .returned v ∧ ErrIs w' ch v ∧ ((lo ≤ n ∧ n ≤ hi ∧ ch = []) ∨ (ch ≠ [] ∧ NumOk ch ∧ ch.length < 900 ∧ codeOf ch = 2)) ∧ Below w.heap.size w w' := by
  by_cases h : lo ≤ n ∧ n ≤ hi
  · refine (pwithin_ok h.1 h.2).mono ?_
    rintro e w' ⟨rfl, rfl⟩
    exact ⟨_, [], rfl, rfl, .inl ⟨h.1, h.2, rfl⟩, Below.refl _ _⟩
  · refine (pwithin_no h).mono ?_
    rintro e w' ⟨v, rfl, h1, ⟨ch, h2, h3, h4, h5⟩, h6⟩
    exact ⟨v, ch, rfl, h2, .inr ⟨(by rintro rfl; obtain ⟨t, u, rfl⟩ := h1; cases h2), h3, h4, h5⟩, h6⟩
theorem codeOf_nam (s : ByteArray) {ch : List Lk} (h : ch ≠ []) : codeOf (.nam s :: ch) = codeOf ch := by
  cases ch with
  | nil => exact absurd rfl h
  | cons k r => rfl
theorem onto_ne (k : Lk) {ch : List Lk} (h : ch ≠ []) : onto k ch = k :: ch := by
  cases ch with
  | nil => exact absurd rfl h
  | cons => rfl
theorem two_errs {w : World} {x y : Value} {T : TypeId} (hx : x = .nilIface ∨ ∃ t u, x = .iface t u) (hy : y = .nilIface ∨ ∃ t u, y = .iface t u) : ErrsIs (w.alloc (.cells #[x, y] T)) (.slice (some ⟨w.heap.size, 0, none⟩) 2 2) [x, y] := by
  refine .inr ⟨w.heap.size, 2, rfl, by simp, fun i z hz => ?_, ?_⟩
  · rw [cell_of (alloc_at w _)]
    match i, hz with
    | 0, hz => exact hz
    | 1, hz => exact hz
  · intro z hz
    simp only [List.mem_cons, List.not_mem_nil, or_false] at hz
    rcases hz with rfl | rfl
    · exact hx
    · exact hy
section
variable {w : World} {b mp : Nat} {ev : Int} {L : List Rq} {c : Nat} {R : Nat → Prop}
/-- What a Put that is taken leaves. -/
def PutP (w : World) (b mp : Nat) (ev : Int) (L : List Rq) (R : Nat → Prop) (m : MsgV) (e : Ending) (w' : World) : Prop := e = .returned (.int .i64 0) ∧ ∃ (L' : List Rq) (c' : Nat) (n : Rq), BoxAt w' b mp ev L' c' (fun k => R k ∨ k = n.rb) ∧ PutS L n L' ∧ n.m = m ∧ n.sent = false ∧ w.heap.size ≤ n.rb ∧ Touch (fun k => k = mp) w w' ∧ (∀ a, n.tA = some a → w.heap.size ≤ a.block) ∧ ∀ a, n.oA = some a → w.heap.size ≤ a.block
set_option maxRecDepth 100000 in
set_option maxHeartbeats 4000000 in
theorem put_ok (hG : Glob w) (h : BoxAt w b mp ev L c R) {v : Value} {m : MsgV} (hm : MsgIs w v m) (ha : askM m = true) {now : Int} (h0 : 0 ≤ now) (h1 : now ≤ 1099511627776) :
    Calls Tryz.prog 42 #[.pointer (some ⟨b, 0, none⟩), v, .int .i64 now] w (PutP w b mp ev L R m) := by
  have hmay : mayM m = true := by unfold askM at ha; cases hd : mayM m <;> simp_all
  have hl := mayM_lens hmay
  have HMAY := Lib.hid hmay
  have HMS := Lib.hid (fun W (hW : Below w.heap.size w W) => hm.below hW)
  have HAS := Lib.hid (fun W (hW : Below w.heap.size w W) => asks_any (hG.below hW) (hm.below hW))
  rw [ha] at HAS
  have HCL := Lib.hid (fun W (hW : Below w.heap.size w W) => pclone_any (hm.below hW) (by omega) (by omega))
  have HWI := Lib.hid (fun W => pwithin_ok (w := W) h0 h1)
  have HIN := Lib.hid (fun W => in_nil ⟨#[110, 111, 119]⟩ W)
  have HGG := Lib.hid hG
  have HBX := Lib.hid h
  have HMP := Lib.hid (h.glob hG)
  have HF := Lib.hid (fun W : World => firstE_any (two_errs (w := W) (x := .nilIface) (y := .nilIface) (T := 94) (.inl rfl) (.inl rfl)))
  obtain ⟨tA, tc, oA, oc, rfl, ht, ho, hk⟩ := hm
  have HK := Lib.hid hk
  obtain ⟨kd, fr, tt, g, nd, tr, lw, co, ti, tl, os⟩ := m
  simp only at HMS HAS HCL ht ho hk ⊢
  have hb0 := below_new (w := w) (.cells #[.int .i64 kd, .int .i64 fr, .int .i64 tt, .int .i64 g, .int .i64 nd, .int .i64 tr, .int .i64 lw, .int .i64 co, .int .i64 ti, .slice tA tl.length tc, .slice oA os.length oc] 50)
  have HB0 := Lib.hid hb0
  have hat := alloc_at w (.cells #[.int .i64 kd, .int .i64 fr, .int .i64 tt, .int .i64 g, .int .i64 nd, .int .i64 tr, .int .i64 lw, .int .i64 co, .int .i64 ti, .slice tA tl.length tc, .slice oA os.length oc] 50)
  have HAT : Hid (∀ W, Below (w.alloc (.cells #[.int .i64 kd, .int .i64 fr, .int .i64 tt, .int .i64 g, .int .i64 nd, .int .i64 tr, .int .i64 lw, .int .i64 co, .int .i64 ti, .slice tA tl.length tc, .slice oA os.length oc] 50)).heap.size (w.alloc (.cells #[.int .i64 kd, .int .i64 fr, .int .i64 tt, .int .i64 g, .int .i64 nd, .int .i64 tr, .int .i64 lw, .int .i64 co, .int .i64 ti, .slice tA tl.length tc, .slice oA os.length oc] 50)) W → W.heap[w.heap.size]? = some (.cells #[.int .i64 kd, .int .i64 fr, .int .i64 tt, .int .i64 g, .int .i64 nd, .int .i64 tr, .int .i64 lw, .int .i64 co, .int .i64 ti, .slice tA tl.length tc, .slice oA os.length oc] 50 (0, 0))) := Lib.hid (fun W hW => (hW.block _ (heap_lt hat)).trans hat)
  have HNO := Lib.hid (pnone_any (h.below hb0).head)
  have HHD : Hid (∀ W, Below w.heap.size w W → W.cell? ⟨b, 1, none⟩ = some (.map (some mp))) := Lib.hid (fun W hW => cell_of (h.below hW).head 1)
  have HBL := Lib.hid (And.intro (heap_lt h.head) h.map.lt)
  have m0 := cell_of hat 0
  have m1 := cell_of hat 1
  have m2 := cell_of hat 2
  have m3 := cell_of hat 3
  have m4 := cell_of hat 4
  have m5 := cell_of hat 5
  have m6 := cell_of hat 6
  have m7 := cell_of hat 7
  have m8 := cell_of hat 8
  have m9 := cell_of hat 9
  have m10 := cell_of hat 10
  simp at m0 m1 m2 m3 m4 m5 m6 m7 m8 m9 m10
  clear h hG ha h0 h1 hmay hl ht ho hk hb0 hat
  go_enter Tryz.func42, Tryz.ntmps42
  go_wp2_with fail
  refine (HNO.out).mono ?_
  rintro e w1 ⟨rfl, rfl⟩
  go_wp2_with fail
  refine (HAS.out _ HB0.out).mono ?_
  rintro e w2 hask
  obtain ⟨rfl, hb2⟩ : e = .returned .nilIface ∧ Below (w.alloc (.cells #[.int .i64 kd, .int .i64 fr, .int .i64 tt, .int .i64 g, .int .i64 nd, .int .i64 tr, .int .i64 lw, .int .i64 co, .int .i64 ti, .slice tA tl.length tc, .slice oA os.length oc] 50)).heap.size (w.alloc (.cells #[.int .i64 kd, .int .i64 fr, .int .i64 tt, .int .i64 g, .int .i64 nd, .int .i64 tr, .int .i64 lw, .int .i64 co, .int .i64 ti, .slice tA tl.length tc, .slice oA os.length oc] 50)) w2 := by
    rcases hask with ⟨_, h2, h3⟩ | ⟨h2, _⟩
    · exact ⟨h2, h3⟩
    · cases h2
  have HB2 := Lib.hid hb2
  clear hask hb2 m0 m1 m2 m3 m4 m5 m6 m7 m8 m9 m10
  go_wp2_with fail
  refine (HWI.out _).mono ?_
  rintro e w3 ⟨rfl, rfl⟩
  go_wp2_with fail
  refine (HIN.out _).mono ?_
  rintro e w4 ⟨rfl, rfl⟩
  go_wp2_with fail
  refine (HF.out _).mono ?_
  rintro e w5 ⟨rfl, hw5⟩
  obtain ⟨W5, hW5⟩ : ∃ W, W = w3.alloc (.cells #[.nilIface, .nilIface] 94) := ⟨_, rfl⟩
  rw [← hW5] at hw5
  subst hw5
  rw [show firstV [.nilIface, .nilIface] = .nilIface from rfl]
  have hb5 : Below (w.alloc (.cells #[.int .i64 kd, .int .i64 fr, .int .i64 tt, .int .i64 g, .int .i64 nd, .int .i64 tr, .int .i64 lw, .int .i64 co, .int .i64 ti, .slice tA tl.length tc, .slice oA os.length oc] 50)).heap.size (w.alloc (.cells #[.int .i64 kd, .int .i64 fr, .int .i64 tt, .int .i64 g, .int .i64 nd, .int .i64 tr, .int .i64 lw, .int .i64 co, .int .i64 ti, .slice tA tl.length tc, .slice oA os.length oc] 50)) W5 := by rw [hW5]; exact HB2.out.trans ((below_new _).mono HB2.out.size)
  have HB5 := Lib.hid hb5
  have HBW := Lib.hid (HB0.out.trans (hb5.mono HB0.out.size))
  have hbx5 := HBX.out.below HBW.out
  have HBX5 := Lib.hid hbx5
  have HCL5 : Hid (∀ W, Below W5.heap.size W5 W → _) := Lib.hid (fun W hW => HCL.out W (HBW.out.trans (hW.mono HBW.out.size)))
  have HSW : Hid (∀ W : World, Touch (fun k => k = mp) W5 W → W.cell? ⟨b, 1, none⟩ = some (.map (some mp)) ∧ W.cell? ⟨w.heap.size, 0, none⟩ = some (.int .i64 kd) ∧ W.cell? ⟨w.heap.size, 1, none⟩ = some (.int .i64 fr) ∧ W.cell? ⟨w.heap.size, 2, none⟩ = some (.int .i64 tt) ∧ W.cell? ⟨w.heap.size, 3, none⟩ = some (.int .i64 g) ∧ W.cell? ⟨w.heap.size, 4, none⟩ = some (.int .i64 nd) ∧ W.cell? ⟨w.heap.size, 5, none⟩ = some (.int .i64 tr) ∧ W.cell? ⟨w.heap.size, 6, none⟩ = some (.int .i64 lw) ∧ W.cell? ⟨w.heap.size, 7, none⟩ = some (.int .i64 co) ∧ W.cell? ⟨w.heap.size, 8, none⟩ = some (.int .i64 ti) ∧ W.cell? ⟨w.heap.size, 9, none⟩ = some (.slice tA tl.length tc) ∧ W.cell? ⟨w.heap.size, 10, none⟩ = some (.slice oA os.length oc)) := Lib.hid (fun W hW => by
    have e1 := (hW.block b (heap_lt hbx5.head) hbx5.offR.2.2).trans hbx5.head
    have hm5 := HAT.out W5 hb5
    have e2 := (hW.block w.heap.size (heap_lt hm5) (by have := HBL.out.2; omega)).trans hm5
    exact ⟨cell_of e1 1, cell_of e2 0, cell_of e2 1, cell_of e2 2, cell_of e2 3, cell_of e2 4, cell_of e2 5, cell_of e2 6, cell_of e2 7, cell_of e2 8, cell_of e2 9, cell_of e2 10⟩)
  clear hb5 hbx5 hW5 HF HIN HWI HAS HNO
  go_wp2_with fail
  refine wp_only ?_
  refine wp_region_held_drew (S := fun W => W.cell? ⟨b, 1, none⟩ = some (.map (some mp)) ∧ W.cell? ⟨w.heap.size, 0, none⟩ = some (.int .i64 kd) ∧ W.cell? ⟨w.heap.size, 1, none⟩ = some (.int .i64 fr) ∧ W.cell? ⟨w.heap.size, 2, none⟩ = some (.int .i64 tt) ∧ W.cell? ⟨w.heap.size, 3, none⟩ = some (.int .i64 g) ∧ W.cell? ⟨w.heap.size, 4, none⟩ = some (.int .i64 nd) ∧ W.cell? ⟨w.heap.size, 5, none⟩ = some (.int .i64 tr) ∧ W.cell? ⟨w.heap.size, 6, none⟩ = some (.int .i64 lw) ∧ W.cell? ⟨w.heap.size, 7, none⟩ = some (.int .i64 co) ∧ W.cell? ⟨w.heap.size, 8, none⟩ = some (.int .i64 ti) ∧ W.cell? ⟨w.heap.size, 9, none⟩ = some (.slice tA tl.length tc) ∧ W.cell? ⟨w.heap.size, 10, none⟩ = some (.slice oA os.length oc)) (by kernel_rfl) (HSW.out _ (Touch.drew (Touch.refl _ _))) (fun hHeld => ?_)
  refine wpAnyH_take (i := 0) (oi := { dst := some 19, op := Op.move (Operand.tmp 0), type := 69, pos := "post.go:40", after := #[], guard := none }) (v := ?vv1) rfl (by kernel_rfl) (by kernel_rfl) (by kernel_rfl) (fun _ _ _ h => h) ?hy1 (by assumption) ?rest1
  case hy1 => (refine Or.inl ⟨by rfl, ?_⟩; intro W hSw; (try dsimp only at hSw); go_simp; (try with_reducible rfl))
  try simp only [Act.put, List.setIfInBounds_toArray, List.set_cons_zero, List.set_cons_succ]
  refine wpAnyH_take (i := 1) (oi := { dst := some 20, op := Op.nilCheck (Operand.tmp 19), type := 0, pos := "post.go:40", after := #[{ on := 0, ground := Ground.data }], guard := none }) (v := ?vv2) rfl (by kernel_rfl) (by kernel_rfl) (by kernel_rfl) (fun _ _ _ h => h) ?hy2 (by assumption) ?rest2
  case hy2 => (refine Or.inl ⟨by rfl, ?_⟩; intro W hSw; (try dsimp only at hSw); go_simp; (try with_reducible rfl))
  try simp only [Act.put, List.setIfInBounds_toArray, List.set_cons_zero, List.set_cons_succ]
  refine wpAnyH_take (i := 2) (oi := { dst := some 21, op := Op.fieldAddr 143 (Operand.tmp 20) 1, type := 0, pos := "post.go:40", after := #[{ on := 1, ground := Ground.data }], guard := none }) (v := ?vv3) rfl (by kernel_rfl) (by kernel_rfl) (by kernel_rfl) (fun _ _ _ h => h) ?hy3 (by assumption) ?rest3
  case hy3 => (refine Or.inl ⟨by rfl, ?_⟩; intro W hSw; (try dsimp only at hSw); go_simp; (try with_reducible rfl))
  try simp only [Act.put, List.setIfInBounds_toArray, List.set_cons_zero, List.set_cons_succ]
  refine wpAnyH_take (i := 3) (oi := { dst := some 22, op := Op.load 141 (Operand.tmp 21), type := 141, pos := "post.go:40", after := #[{ on := 2, ground := Ground.data }], guard := none }) (v := ?vv4) rfl (by kernel_rfl) (by kernel_rfl) (by kernel_rfl) (fun _ _ _ h => h) ?hy4 (by assumption) ?rest4
  case hy4 => (refine Or.inl ⟨by rfl, ?_⟩; intro W hSw; (try dsimp only at hSw); go_simp; (try with_reducible rfl))
  try simp only [Act.put, List.setIfInBounds_toArray, List.set_cons_zero, List.set_cons_succ]
  refine wpAnyH_take (i := 4) (oi := { dst := some 23, op := Op.fieldAddr 50 (Operand.tmp 4) 3, type := 0, pos := "post.go:40", after := #[], guard := none }) (v := ?vv5) rfl (by kernel_rfl) (by kernel_rfl) (by kernel_rfl) (fun _ _ _ h => h) ?hy5 (by assumption) ?rest5
  case hy5 => (refine Or.inl ⟨by rfl, ?_⟩; intro W hSw; (try dsimp only at hSw); go_simp; (try with_reducible rfl))
  try simp only [Act.put, List.setIfInBounds_toArray, List.set_cons_zero, List.set_cons_succ]
  refine wpAnyH_take (i := 5) (oi := { dst := some 24, op := Op.fieldAddr 48 (Operand.tmp 23) 0, type := 0, pos := "post.go:40", after := #[{ on := 4, ground := Ground.data }], guard := none }) (v := ?vv6) rfl (by kernel_rfl) (by kernel_rfl) (by kernel_rfl) (fun _ _ _ h => h) ?hy6 (by assumption) ?rest6
  case hy6 => (refine Or.inl ⟨by rfl, ?_⟩; intro W hSw; (try dsimp only at hSw); go_simp; (try with_reducible rfl))
  try simp only [Act.put, List.setIfInBounds_toArray, List.set_cons_zero, List.set_cons_succ]
  refine wpAnyH_take (i := 6) (oi := { dst := some 25, op := Op.load 3 (Operand.tmp 24), type := 3, pos := "post.go:40", after := #[{ on := 5, ground := Ground.data }], guard := none }) (v := ?vv7) rfl (by kernel_rfl) (by kernel_rfl) (by kernel_rfl) (fun _ _ _ h => h) ?hy7 (by assumption) ?rest7
  case hy7 => (refine Or.inl ⟨by rfl, ?_⟩; intro W hSw; (try dsimp only at hSw); go_simp; (try with_reducible rfl))
  try simp only [Act.put, List.setIfInBounds_toArray, List.set_cons_zero, List.set_cons_succ]
  refine wpAnyH_take (i := 7) (oi := { dst := some 26, op := Op.load 50 (Operand.tmp 4), type := 50, pos := "post.go:40", after := #[], guard := none }) (v := ?vv8) rfl (by kernel_rfl) (by kernel_rfl) (by kernel_rfl) (fun _ _ _ h => h) ?hy8 (by assumption) ?rest8
  case hy8 => (refine Or.inl ⟨by rfl, ?_⟩; intro W hSw; (try dsimp only at hSw); go_simp; (try with_reducible rfl))
  try simp only [Act.put, List.setIfInBounds_toArray, List.set_cons_zero, List.set_cons_succ]
  refine wpAnyH_ready (rs := [8]) (by kernel_rfl) (by simp) ?_
  refine AllReadyH.cons (o := { dst := some 27, op := Op.call { callee := Callee.value (Operand.func 91), args := #[Operand.tmp 26], argTypes := #[50] }, type := 50, pos := "post.go:40", after := #[{ on := 7, ground := Ground.data }], guard := none }) rfl (fun K hK => ?step9) ?more9
  case more9 => exact AllReadyH.nil
  ((go_simp; go_at_call 91; refine (HCL5.out _ (below_drew (Below.refl W5.heap.size W5))).mono ?_; rintro e w6 ⟨v2, rfl, ho2, hb6⟩; obtain ⟨tA2, tc2, oA2, oc2, rfl, hn2, hp2, e1, e2⟩ := ho2; go_wp2_with fail))
  refine hK.out _ _ ?hS9 (fun hHeld => ?rr9)
  case hS9 => (exact HSW.out _ (Touch.of_below (below_of_drew hb6)))
  clear hK K
  try simp only [Act.put, List.setIfInBounds_toArray, List.set_cons_zero, List.set_cons_succ]
  have HB6 := Lib.hid (below_of_drew hb6)
  have HN2 := Lib.hid (And.intro hn2 (And.intro hp2 (And.intro e1 e2)))
  clear hn2 hp2 e1 e2 hb6
  refine wpAnyH_take (i := 9) (oi := { dst := some 28, op := Op.build 155 #[(0, Operand.tmp 27)], type := 155, pos := "post.go:40", after := #[{ on := 8, ground := Ground.data }], guard := none }) (v := ?vv10) rfl (by kernel_rfl) (by kernel_rfl) (by kernel_rfl) (fun _ _ _ h => h) ?hy10 (by assumption) ?rest10
  case hy10 => (refine Or.inl ⟨by rfl, ?_⟩; intro W hSw; (try dsimp only at hSw); go_simp; (try with_reducible rfl))
  try simp only [Act.put, List.setIfInBounds_toArray, List.set_cons_zero, List.set_cons_succ]
  refine wpAnyH_ready (rs := [10]) (by kernel_rfl) (by simp) ?_
  refine AllReadyH.cons (o := { dst := some 29, op := Op.box 155 (Operand.tmp 28), type := 150, pos := "post.go:40", after := #[{ on := 9, ground := Ground.data }], guard := none }) rfl (fun K hK => ?step11) ?more11
  case more11 => exact AllReadyH.nil
  ((go_simp; go_wp2_with fail))
  refine hK.out _ _ ?hS11 (fun hHeld => ?rr11)
  case hS11 => (exact HSW.out _ ((Touch.of_below HB6.out).alloc _))
  clear hK K
  try simp only [Act.put, List.setIfInBounds_toArray, List.set_cons_zero, List.set_cons_succ]
  have hb7 : Below W5.heap.size W5 (w6.alloc (.cells #[.int .i64 kd, .int .i64 fr, .int .i64 tt, .int .i64 g, .int .i64 nd, .int .i64 tr, .int .i64 lw, .int .i64 co, .int .i64 ti, .slice tA2 tl.length tc2, .slice oA2 os.length oc2, .bool false, .int .i64 0] 155)) := HB6.out.trans ((below_new _).mono HB6.out.size)
  obtain ⟨W8, L', c', bn, hrun, hbox, hP, hT8⟩ := HBX5.out.put hb7 ⟨⟨kd, fr, tt, g, nd, tr, lw, co, ti, tl, os⟩, tA2, tc2, oA2, oc2, false, 0, w6.heap.size, 0⟩ (alloc_at w6 _) HB6.out.size (HN2.out.1.below (below_new _)) (HN2.out.2.1.below (below_new _)) HK.out HMAY.out (fun a e => ⟨(HN2.out.2.2.1 a e).1, by have := (HN2.out.2.2.1 a e).2; simp only; omega⟩) (fun a e => ⟨(HN2.out.2.2.2 a e).1, by have := (HN2.out.2.2.2 a e).2; simp only; omega⟩)
  simp only at hrun
  refine wpAnyH_ready (rs := [11]) (by kernel_rfl) (by simp) ?_
  refine AllReadyH.cons (o := { dst := none, op := Op.mapUpdate 141 (Operand.tmp 22) (Operand.tmp 25) (Operand.tmp 29), type := 0, pos := "post.go:40", after := #[{ on := 3, ground := Ground.data }, { on := 6, ground := Ground.data }, { on := 10, ground := Ground.data }, { on := 8, ground := Ground.chain }, { on := 0, ground := Ground.phase }, { on := 1, ground := Ground.phase }, { on := 2, ground := Ground.phase }, { on := 3, ground := Ground.phase }, { on := 4, ground := Ground.phase }, { on := 5, ground := Ground.phase }, { on := 6, ground := Ground.phase }, { on := 7, ground := Ground.phase }, { on := 8, ground := Ground.phase }, { on := 9, ground := Ground.phase }, { on := 10, ground := Ground.phase }], guard := none }) rfl (fun K hK => ?step12) ?more12
  case more12 => exact AllReadyH.nil
  ((refine pstep_put_run hrun rfl (.tmp 22) (.tmp 25) (.tmp 29) rfl rfl rfl rfl ?_))
  refine hK.out _ _ ?hS12 (fun hHeld => ?rr12)
  case hS12 => (exact HSW.out _ ((Touch.of_below (S := fun k => k = mp) hb7).trans hT8 (fun _ _ e => e)))
  clear hK K
  try simp only [Act.put, List.setIfInBounds_toArray, List.set_cons_zero, List.set_cons_succ]
  refine wpAnyH_done (by kernel_rfl) ?_ _
  dsimp only [onlyN]
  have HFIN : Hid (PutP w b mp ev L R ⟨kd, fr, tt, g, nd, tr, lw, co, ti, tl, os⟩ (.returned (.int .i64 0)) W8) := Lib.hid (by
    refine ⟨rfl, L', c', ⟨⟨kd, fr, tt, g, nd, tr, lw, co, ti, tl, os⟩, tA2, tc2, oA2, oc2, false, 0, w6.heap.size, bn⟩, hbox, hP, rfl, rfl, ?_, ?_, fun a e => ?_, fun a e => ?_⟩
    · have := HB6.out.size; have := HBW.out.size; simp only; omega
    · exact Touch.ahead HBW.out (Touch.ahead hb7 hT8)
    · exact Nat.le_trans HBW.out.size (HN2.out.2.2.1 a e).1
    · exact Nat.le_trans HBW.out.size (HN2.out.2.2.2 a e).1)
  have HCO := Lib.hid (code_any (w := W8) (W := W8) (c := []) (v := .nilIface) ((HGG.out.below (HBW.out.trans (hb7.mono HBW.out.size))).touch hT8 (fun e => HMP.out e.symm)) rfl (fun e h => by cases h) (by simp) (Below.refl _ _))
  rw [show codeOf [] = 0 from rfl] at HCO
  clear hHeld hb7 hrun hbox hP hT8
  go_wp2_with fail
  refine (HCO.out).mono ?_
  rintro e w9 ⟨rfl, hb9⟩
  have HB9 := Lib.hid hb9
  clear hb9
  go_wp2_with fail
  go_ret
  obtain ⟨_, L', c', n, q1, q2, q3, q4, q5, q6, q7, q8⟩ := HFIN.out
  exact ⟨rfl, L', c', n, q1.below HB9.out, q2, q3, q4, q5, q6.after HB9.out, q7, q8⟩
set_option maxRecDepth 100000 in
set_option maxHeartbeats 4000000 in
theorem put_no (hG : Glob w) (h : BoxAt w b mp ev L c R) {v : Value} {m : MsgV} (hm : MsgIs w v m) {now : Int} (hn : ¬ (askM m = true ∧ 0 ≤ now ∧ now ≤ 1099511627776)) :
    Calls Tryz.prog 42 #[.pointer (some ⟨b, 0, none⟩), v, .int .i64 now] w fun e w' => e = .returned (.int .i64 2) ∧ Below w.heap.size w w' := by
  have HAS := Lib.hid (fun W (hW : Below w.heap.size w W) => asks_any (hG.below hW) (hm.below hW))
  have HIN := Lib.hid (fun W (ch : List Lk) (x : Value) (hx : ErrIs W ch x) => in_any ⟨#[110, 111, 119]⟩ hx)
  have HWI := Lib.hid (fun W => pwithin_any (w := W) 0 1099511627776 now)
  have HGG := Lib.hid hG
  have HF : Hid (∀ (W : World) (x y : Value), (x = .nilIface ∨ ∃ t u, x = .iface t u) → (y = .nilIface ∨ ∃ t u, y = .iface t u) → _) := Lib.hid (fun W x y hx hy => firstE_any (two_errs (w := W) (x := x) (y := y) (T := 94) hx hy))
  have HN := Lib.hid hn
  obtain ⟨tA, tc, oA, oc, rfl, ht, ho, hk⟩ := hm
  obtain ⟨kd, fr, tt, g, nd, tr, lw, co, ti, tl, os⟩ := m
  simp only at HAS ⊢
  have hb0 := below_new (w := w) (.cells #[.int .i64 kd, .int .i64 fr, .int .i64 tt, .int .i64 g, .int .i64 nd, .int .i64 tr, .int .i64 lw, .int .i64 co, .int .i64 ti, .slice tA tl.length tc, .slice oA os.length oc] 50)
  have HB0 := Lib.hid hb0
  have hat := alloc_at w (.cells #[.int .i64 kd, .int .i64 fr, .int .i64 tt, .int .i64 g, .int .i64 nd, .int .i64 tr, .int .i64 lw, .int .i64 co, .int .i64 ti, .slice tA tl.length tc, .slice oA os.length oc] 50)
  have HNO := Lib.hid (pnone_any (h.below hb0).head)
  have m0 := cell_of hat 0
  have m1 := cell_of hat 1
  have m2 := cell_of hat 2
  have m3 := cell_of hat 3
  have m4 := cell_of hat 4
  have m5 := cell_of hat 5
  have m6 := cell_of hat 6
  have m7 := cell_of hat 7
  have m8 := cell_of hat 8
  have m9 := cell_of hat 9
  have m10 := cell_of hat 10
  simp at m0 m1 m2 m3 m4 m5 m6 m7 m8 m9 m10
  clear h hG hn ht ho hk hb0 hat
  go_enter Tryz.func42, Tryz.ntmps42
  go_wp2_with fail
  refine (HNO.out).mono ?_
  rintro e w1 ⟨rfl, rfl⟩
  go_wp2_with fail
  refine (HAS.out _ HB0.out).mono ?_
  rintro e w2 hask
  obtain ⟨x1, rfl, hx1, hb2⟩ : ∃ x, e = .returned x ∧ ((∃ t u, x = .iface t u) ∧ (∃ ch, ErrIs w2 ch x ∧ NumOk ch ∧ ch.length < 900 ∧ codeOf ch = 2) ∨ (x = .nilIface ∧ askM ⟨kd, fr, tt, g, nd, tr, lw, co, ti, tl, os⟩ = true)) ∧ Below w.heap.size w w2 := by
    rcases hask with ⟨h1, h2, h3⟩ | ⟨_, x, h1, h2, h3, h4⟩
    · exact ⟨_, h2, .inr ⟨rfl, h1⟩, HB0.out.trans (h3.mono HB0.out.size)⟩
    · exact ⟨_, h1, .inl ⟨h2, h3⟩, HB0.out.trans (h4.mono HB0.out.size)⟩
  have HX1 := Lib.hid hx1
  have hf1 : x1 = .nilIface ∨ ∃ t u, x1 = .iface t u := by
    rcases hx1 with ⟨h1, _⟩ | ⟨h1, _⟩
    · exact .inr h1
    · exact .inl h1
  have HF1 := Lib.hid hf1
  have HB2 := Lib.hid hb2
  clear hask hb2 hx1 hf1 m0 m1 m2 m3 m4 m5 m6 m7 m8 m9 m10
  go_wp2_with fail
  refine (HWI.out _).mono ?_
  rintro e w3 ⟨x2, ch2, rfl, hx2, hch2, hb3⟩
  have HX2 := Lib.hid hx2
  have HC2 := Lib.hid hch2
  have HB3 := Lib.hid (HB2.out.trans (hb3.mono HB2.out.size))
  have HS3 := Lib.hid hb3
  clear hx2 hch2 hb3
  go_wp2_with fail
  refine (HIN.out _ _ _ HX2.out).mono ?_
  rintro e w4 ⟨x3, rfl, hx3, hb4⟩
  have hf3 := hx3.form
  have HX3 := Lib.hid hx3
  have HF3 := Lib.hid hf3
  have HB4 := Lib.hid (HB3.out.trans (hb4.mono HB3.out.size))
  have HS4 := Lib.hid (HS3.out.trans (hb4.mono HS3.out.size))
  clear hx3 hf3 hb4
  have q1 : x1.oneCell' = true := by rcases HF1.out with rfl | ⟨t, u, rfl⟩ <;> rfl
  have q3 : x3.oneCell' = true := by rcases HF3.out with rfl | ⟨t, u, rfl⟩ <;> rfl
  obtain ⟨t, u, ch, hE, hN, hl, hcd⟩ : ∃ t u ch, firstV [x1, x3] = .iface t u ∧ ErrIs w4 ch (.iface t u) ∧ NumOk ch ∧ ch.length < 1000 ∧ codeOf ch = 2 := by
    rcases HX1.out with ⟨⟨t, u, rfl⟩, ch, h1, h2, h3, h4⟩ | ⟨rfl, ha⟩
    · exact ⟨t, u, ch, rfl, h1.below HS4.out, h2, by omega, h4⟩
    · rcases HC2.out with ⟨h1, h2⟩ | ⟨h1, h2, h3, h4⟩
      · exact absurd ⟨ha, h1, h2.1⟩ HN.out
      · have h5 := HX3.out
        rw [onto_ne _ h1] at h5
        rcases HF3.out with rfl | ⟨t, u, rfl⟩
        · obtain ⟨_, b, x, e, _⟩ := h5
          cases e
        · exact ⟨t, u, _, rfl, h5, numOk_cons (by simp) h2, by simp; omega, by rw [codeOf_nam _ h1]; exact h4⟩
  have HE := Lib.hid hE
  have HA5 := below_new (w := w4) (.cells #[x1, x3] 94)
  have HCO := Lib.hid (code_any (w := w4.alloc (.cells #[x1, x3] 94)) (W := w4.alloc (.cells #[x1, x3] 94)) ((HGG.out.below HB4.out).below HA5) (hN.below HA5) hl hcd.1 (Below.refl _ _))
  rw [hcd.2] at HCO
  have HB5 := Lib.hid (HB4.out.trans (HA5.mono HB4.out.size))
  clear hE hN hl hcd HA5 q1 q3
  have HE1 := HE.out
  rcases HF1.out with rfl | ⟨t1, u1, rfl⟩
  all_goals rcases HF3.out with rfl | ⟨t3, u3, rfl⟩
  · cases HE1
  all_goals
    clear HE1
    go_wp2_with fail
    refine (HF.out _ _ _ (by first | exact .inl rfl | exact .inr ⟨_, _, rfl⟩) (by first | exact .inl rfl | exact .inr ⟨_, _, rfl⟩)).mono ?_
    rintro e w5 ⟨rfl, hw5⟩
    subst hw5
    rw [HE.out]
    go_wp2_with fail
    refine (HCO.out).mono ?_
    rintro e w6 ⟨rfl, hb6⟩
    have HB6 := Lib.hid (HB5.out.trans (hb6.mono HB5.out.size))
    clear hb6
    go_wp2_with fail
    go_ret
    exact ⟨rfl, HB6.out⟩
end
set_option maxRecDepth 100000 in
set_option maxHeartbeats 4000000 in
theorem put_nil {w : World} {v : Value} {m : MsgV} (hm : MsgIs w v m) (now : Int) :
    Calls Tryz.prog 42 #[.pointer none, v, .int .i64 now] w fun e w' => e = .returned (.int .i64 1) ∧ Below w.heap.size w w' := by
  obtain ⟨tA, tc, oA, oc, rfl, ht, ho, hk⟩ := hm
  obtain ⟨kd, fr, tt, g, nd, tr, lw, co, ti, tl, os⟩ := m
  simp only
  have HB0 := Lib.hid (below_new (w := w) (.cells #[.int .i64 kd, .int .i64 fr, .int .i64 tt, .int .i64 g, .int .i64 nd, .int .i64 tr, .int .i64 lw, .int .i64 co, .int .i64 ti, .slice tA tl.length tc, .slice oA os.length oc] 50))
  have HNO := Lib.hid (pnone_nil (w.alloc (.cells #[.int .i64 kd, .int .i64 fr, .int .i64 tt, .int .i64 g, .int .i64 nd, .int .i64 tr, .int .i64 lw, .int .i64 co, .int .i64 ti, .slice tA tl.length tc, .slice oA os.length oc] 50)))
  clear ht ho hk
  go_enter Tryz.func42, Tryz.ntmps42
  go_wp2_with fail
  refine (HNO.out).mono ?_
  rintro e w1 ⟨rfl, rfl⟩
  go_wp2_with fail
  go_ret
  exact ⟨rfl, HB0.out⟩
end Go.Proofs.YtfddlhcdlgdofaaGreatDoor
