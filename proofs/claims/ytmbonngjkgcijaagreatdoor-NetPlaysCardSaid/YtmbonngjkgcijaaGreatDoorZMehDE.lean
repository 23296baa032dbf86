/- The document's own May of messages, kinds [12, 14] (genmehc.py wrote it.) The document's own May of messages, kinds [13, 15, 16] (genmehc.py wrote it.) The document's own May of messages, at any message. The document's own writers of bytes: Nat, Num, Str. (Of stage 1's OctV, OctX.) The document's own Encode of operations (genmehf.py wrote it.) -/
import Derived.Test.YtmbonngjkgcijaaGreatDoorZMehC
import Derived.Test.YtmbonngjkgcijaaGreatDoorZOmpD
import Derived.Deep.LoopGhost
import Derived.Lib.ItoaNum
import Derived.Lib.AtoiErrMem
import Derived.Test.YtmbonngjkgcijaaGreatDoorZMecD
set_option linter.unusedSimpArgs false
set_option linter.unusedVariables false
set_option linter.unnecessarySimpa false
namespace Go.Proofs.YtmbonngjkgcijaaGreatDoor
open Go.RowKit Go.Shelf

set_option maxRecDepth 100000 in
set_option maxHeartbeats 8000000 in
theorem rMay_E {w : World} {v : Value} {m : MsgV} (h : MsgIs w v m) (hg : m.kd ∈ ([12, 14] : List Int)) (hti : m.ti ≤ 9223372036854775807) :
    Calls Tryz.prog 88 #[v] w fun e w' => e = .returned (.bool (mayM m)) ∧ Below w.heap.size w w' := by
  obtain ⟨tA, tc, oA, oc, rfl, ht, ho, hk⟩ := h
  obtain ⟨kd, fr, tt, g, nd, tr, lw, co, ti, tl, os⟩ := m
  simp only at ht ho hk hg hti ⊢
  have HTI := Lib.hid hti
  clear hti
  have HCK := Lib.hid (fun W (hW : Below w.heap.size w W) => rcheck_any (ho.below hW) hk)
  have hcap : tl.length ≤ tc ∧ tc ≤ maxLen ∧ os.length ≤ oc ∧ oc ≤ maxLen := by
    obtain ⟨_, _, e, h1, h2, _⟩ := ht
    obtain ⟨_, _, e', h3, h4, _⟩ := ho.form
    injection e with _ _ e
    injection e' with _ _ e'
    subst e e'
    exact ⟨h1, h2, h3, h4⟩
  obtain ⟨tn, htn⟩ : ∃ n, tl.length = n := ⟨_, rfl⟩
  obtain ⟨on, hon⟩ : ∃ n, os.length = n := ⟨_, rfl⟩
  rw [hon] at HCK
  rw [htn, hon] at hcap ⊢
  obtain ⟨ck, hck⟩ : ∃ c, checkO os = c := ⟨_, rfl⟩
  rw [hck] at HCK
  have HHS := Lib.hid (fun W => rHas_E hg W)
  simp only [List.mem_cons, List.not_mem_nil, or_false] at hg
  have hflags : kindM kd = true ∧ lowM kd = false ∧ tryM kd = true ∧ opsM kd = false ∧ toldM kd = false ∧ codeM kd = true := by
    unfold kindM lowM tryM opsM toldM codeM
    simp only [decide_eq_true_eq, decide_eq_false_iff_not]
    omega
  have HE : Hid (mayM ⟨kd, fr, tt, g, nd, tr, lw, co, ti, tl, os⟩ = (fitP true fr 1 3 && (fitP false tt 1 3 && (fitP true g 1 1048576 && (fitP true nd 0 255 && (fitP true tr 0 1048576 && (fitP false lw 1 1048577 && (fitP true co 1 99 && (fitP false ti 0 9223372036854775807 && (fitP false (tn : Int) 0 8 && (fitP false (on : Int) 0 8 && decide (ck = 0)))))))))))) := Lib.hid (by
    obtain ⟨e1, e2, e3, e4, e5, e6⟩ := hflags
    unfold mayM
    simp only
    rw [htn, hon, hck, e1, e2, e3, e4, e5, e6]
    rfl)
  obtain ⟨rb, hrb⟩ : ∃ b, mayM ⟨kd, fr, tt, g, nd, tr, lw, co, ti, tl, os⟩ = b := ⟨_, rfl⟩
  rw [hrb] at HE ⊢
  have HCO := Lib.hid (show on ≤ 8 ∨ ck ≠ 0 from by
    rw [← hck, ← hon]
    by_cases h : os.length ≤ 8
    · exact .inl h
    · right; unfold checkO; rw [if_pos (by omega)]; decide)
  have HCN := Lib.hid (show on = 0 → ck = 0 from fun h => by
    rw [← hck]
    have : os = [] := List.length_eq_zero_iff.1 (by rw [hon]; exact h)
    subst this
    rfl)
  have hk1 : ¬ kd < 10 := by omega
  have hk2 : 10 < kd := by omega
  have H_t := Lib.hid (fun W => rhas_any ⟨#[116, 99]⟩ 116 W (by decide))
  rw [show hasL (⟨#[116, 99]⟩ : ByteArray).data.toList 116 = true from by decide] at H_t
  have H_l := Lib.hid (fun W => rhas_any ⟨#[116, 99]⟩ 108 W (by decide))
  rw [show hasL (⟨#[116, 99]⟩ : ByteArray).data.toList 108 = false from by decide] at H_l
  have H_c := Lib.hid (fun W => rhas_any ⟨#[116, 99]⟩ 99 W (by decide))
  rw [show hasL (⟨#[116, 99]⟩ : ByteArray).data.toList 99 = true from by decide] at H_c
  have H_k := Lib.hid (fun W => rhas_any ⟨#[116, 99]⟩ 107 W (by decide))
  rw [show hasL (⟨#[116, 99]⟩ : ByteArray).data.toList 107 = false from by decide] at H_k
  have H_o := Lib.hid (fun W => rhas_any ⟨#[116, 99]⟩ 111 W (by decide))
  rw [show hasL (⟨#[116, 99]⟩ : ByteArray).data.toList 111 = false from by decide] at H_o
  obtain ⟨fg, hfg⟩ : ∃ b, fitP true g 1 1048576 = b := ⟨_, rfl⟩
  have I_fg := Lib.hid (fun W => rin_any g 1 1048576 W)
  rw [hfg] at I_fg HE
  clear hfg
  obtain ⟨fn, hfn⟩ : ∃ b, fitP true nd 0 255 = b := ⟨_, rfl⟩
  have I_fn := Lib.hid (fun W => rin_any nd 0 255 W)
  rw [hfn] at I_fn HE
  clear hfn
  obtain ⟨ff, hff⟩ : ∃ b, fitP true fr 1 3 = b := ⟨_, rfl⟩
  have I_ff := Lib.hid (fun W => rin_any fr 1 3 W)
  rw [hff] at I_ff HE
  clear hff
  obtain ⟨fy, hfy⟩ : ∃ b, fitP true tr 0 1048576 = b := ⟨_, rfl⟩
  have I_fy := Lib.hid (fun W => rin_any tr 0 1048576 W)
  rw [hfy] at I_fy HE
  clear hfy
  obtain ⟨fc, hfc⟩ : ∃ b, fitP true co 1 99 = b := ⟨_, rfl⟩
  have I_fc := Lib.hid (fun W => rin_any co 1 99 W)
  rw [hfc] at I_fc HE
  clear hfc
  have HB := Lib.hid (below_new (w := w) (.cells #[.int .i64 kd, .int .i64 fr, .int .i64 tt, .int .i64 g, .int .i64 nd, .int .i64 tr, .int .i64 lw, .int .i64 co, .int .i64 ti, .slice tA tn tc, .slice oA on oc] 37))
  have hcap2 := hcap
  unfold maxLen at hcap2
  have ht8 : tn ≤ 9223372036854775807 := by omega
  have ho8 : on ≤ 9223372036854775807 := by omega
  clear ht ho hk hcap hcap2 htn hon hck hflags hrb hg
  go_enter Tryz.func88, Tryz.ntmps88
  go_wp2_with fail
  refine (HHS.out _).mono ?_
  rintro e w1 ⟨rfl, rfl⟩
  go_wp2_with fail
  refine (I_fg.out _).mono ?_
  rintro e w2 ⟨rfl, rfl⟩
  cases fg with
  | false =>
    go_wp2_with fail
    go_ret
    exact ⟨ret_bool (by rw [HE.out]; simp [fitP] <;> (intros; omega)), HB.out⟩
  | true =>
    go_wp2_with fail
    refine (I_fn.out _).mono ?_
    rintro e w2 ⟨rfl, rfl⟩
    cases fn with
    | false =>
      go_wp2_with fail
      go_ret
      exact ⟨ret_bool (by rw [HE.out]; simp [fitP] <;> (intros; omega)), HB.out⟩
    | true =>
      by_cases ztt : tt = 0
      case neg =>
        have qtt : (tt != 0) = true := by simpa using ztt
        go_wp2_with fail
        go_ret
        exact ⟨ret_bool (by rw [HE.out]; simp [fitP, ztt] <;> (intros; omega)), HB.out⟩
      subst ztt
      go_wp2_with fail
      refine (I_ff.out _).mono ?_
      rintro e w2 ⟨rfl, rfl⟩
      cases ff with
      | false =>
        go_wp2_with fail
        go_ret
        exact ⟨ret_bool (by rw [HE.out]; simp [fitP] <;> (intros; omega)), HB.out⟩
      | true =>
        go_wp2_with fail
        refine (H_t.out _).mono ?_
        rintro e w2 ⟨rfl, rfl⟩
        go_wp2_with fail
        refine (I_fy.out _).mono ?_
        rintro e w2 ⟨rfl, rfl⟩
        cases fy with
        | false =>
          go_wp2_with fail
          go_ret
          exact ⟨ret_bool (by rw [HE.out]; simp [fitP] <;> (intros; omega)), HB.out⟩
        | true =>
          go_wp2_with fail
          refine (H_t.out _).mono ?_
          rintro e w2 ⟨rfl, rfl⟩
          go_wp2_with fail
          refine (H_l.out _).mono ?_
          rintro e w2 ⟨rfl, rfl⟩
          go_wp2_with fail
          refine (H_l.out _).mono ?_
          rintro e w2 ⟨rfl, rfl⟩
          by_cases zlw : lw = 0
          case neg =>
            have qlw : (lw != 0) = true := by simpa using zlw
            go_wp2_with fail
            go_ret
            exact ⟨ret_bool (by rw [HE.out]; simp [fitP, zlw] <;> (intros; omega)), HB.out⟩
          subst zlw
          go_wp2_with fail
          refine (H_c.out _).mono ?_
          rintro e w2 ⟨rfl, rfl⟩
          go_wp2_with fail
          refine (I_fc.out _).mono ?_
          rintro e w2 ⟨rfl, rfl⟩
          cases fc with
          | false =>
            go_wp2_with fail
            go_ret
            exact ⟨ret_bool (by rw [HE.out]; simp [fitP] <;> (intros; omega)), HB.out⟩
          | true =>
            go_wp2_with fail
            refine (H_c.out _).mono ?_
            rintro e w2 ⟨rfl, rfl⟩
            go_wp2_with fail
            refine (H_k.out _).mono ?_
            rintro e w2 ⟨rfl, rfl⟩
            go_wp2_with fail
            refine (H_k.out _).mono ?_
            rintro e w2 ⟨rfl, rfl⟩
            by_cases zti : ti = 0
            case neg =>
              have qti : (ti != 0) = true := by simpa using zti
              go_wp2_with fail
              go_ret
              exact ⟨ret_bool (by rw [HE.out]; simp [fitP, zti] <;> (intros; omega)), HB.out⟩
            subst zti
            by_cases ztn : tn = 0
            case neg =>
              have qtn : (0 : Int) < (tn : Int) := by omega
              have qtn3 : 0 < tn := by omega
              have qtn2 : ¬ (tn : Int) = 0 := by omega
              go_wp2_with fail
              go_ret
              exact ⟨ret_bool (by rw [HE.out]; simp [fitP, qtn2, ztn] <;> (intros; omega)), HB.out⟩
            subst ztn
            go_wp2_with fail
            refine (H_o.out _).mono ?_
            rintro e w2 ⟨rfl, rfl⟩
            go_wp2_with fail
            refine (H_o.out _).mono ?_
            rintro e w2 ⟨rfl, rfl⟩
            by_cases zon : on = 0
            · have zck : ck = 0 := HCN.out zon
              subst zon zck
              go_wp2_with fail
              go_ret
              exact ⟨ret_bool (by rw [HE.out]; simp [fitP] <;> (intros; omega)), HB.out⟩
            · have qon : (((on : Nat) : Int) == 0) = false := by simp; omega
              have qon2 : ¬ (on : Int) = 0 := by omega
              go_wp2_with fail
              go_ret
              exact ⟨ret_bool (by rw [HE.out]; simp [fitP, qon2, zon] <;> (intros; omega)), HB.out⟩
end Go.Proofs.YtmbonngjkgcijaaGreatDoor

namespace Go.Proofs.YtmbonngjkgcijaaGreatDoor
open Go.RowKit Go.Shelf

set_option maxRecDepth 100000 in
set_option maxHeartbeats 8000000 in
theorem rMay_F {w : World} {v : Value} {m : MsgV} (h : MsgIs w v m) (hg : m.kd ∈ ([13, 15, 16] : List Int)) (hti : m.ti ≤ 9223372036854775807) :
    Calls Tryz.prog 88 #[v] w fun e w' => e = .returned (.bool (mayM m)) ∧ Below w.heap.size w w' := by
  obtain ⟨tA, tc, oA, oc, rfl, ht, ho, hk⟩ := h
  obtain ⟨kd, fr, tt, g, nd, tr, lw, co, ti, tl, os⟩ := m
  simp only at ht ho hk hg hti ⊢
  have HTI := Lib.hid hti
  clear hti
  have HCK := Lib.hid (fun W (hW : Below w.heap.size w W) => rcheck_any (ho.below hW) hk)
  have hcap : tl.length ≤ tc ∧ tc ≤ maxLen ∧ os.length ≤ oc ∧ oc ≤ maxLen := by
    obtain ⟨_, _, e, h1, h2, _⟩ := ht
    obtain ⟨_, _, e', h3, h4, _⟩ := ho.form
    injection e with _ _ e
    injection e' with _ _ e'
    subst e e'
    exact ⟨h1, h2, h3, h4⟩
  obtain ⟨tn, htn⟩ : ∃ n, tl.length = n := ⟨_, rfl⟩
  obtain ⟨on, hon⟩ : ∃ n, os.length = n := ⟨_, rfl⟩
  rw [hon] at HCK
  rw [htn, hon] at hcap ⊢
  obtain ⟨ck, hck⟩ : ∃ c, checkO os = c := ⟨_, rfl⟩
  rw [hck] at HCK
  have HHS := Lib.hid (fun W => rHas_F hg W)
  simp only [List.mem_cons, List.not_mem_nil, or_false] at hg
  have hflags : kindM kd = true ∧ lowM kd = false ∧ tryM kd = false ∧ opsM kd = false ∧ toldM kd = false ∧ codeM kd = false := by
    unfold kindM lowM tryM opsM toldM codeM
    simp only [decide_eq_true_eq, decide_eq_false_iff_not]
    omega
  have HE : Hid (mayM ⟨kd, fr, tt, g, nd, tr, lw, co, ti, tl, os⟩ = (fitP true fr 1 3 && (fitP false tt 1 3 && (fitP true g 1 1048576 && (fitP true nd 0 255 && (fitP false tr 0 1048576 && (fitP false lw 1 1048577 && (fitP false co 1 99 && (fitP false ti 0 9223372036854775807 && (fitP false (tn : Int) 0 8 && (fitP false (on : Int) 0 8 && decide (ck = 0)))))))))))) := Lib.hid (by
    obtain ⟨e1, e2, e3, e4, e5, e6⟩ := hflags
    unfold mayM
    simp only
    rw [htn, hon, hck, e1, e2, e3, e4, e5, e6]
    rfl)
  obtain ⟨rb, hrb⟩ : ∃ b, mayM ⟨kd, fr, tt, g, nd, tr, lw, co, ti, tl, os⟩ = b := ⟨_, rfl⟩
  rw [hrb] at HE ⊢
  have HCO := Lib.hid (show on ≤ 8 ∨ ck ≠ 0 from by
    rw [← hck, ← hon]
    by_cases h : os.length ≤ 8
    · exact .inl h
    · right; unfold checkO; rw [if_pos (by omega)]; decide)
  have HCN := Lib.hid (show on = 0 → ck = 0 from fun h => by
    rw [← hck]
    have : os = [] := List.length_eq_zero_iff.1 (by rw [hon]; exact h)
    subst this
    rfl)
  have hk1 : ¬ kd < 10 := by omega
  have hk2 : 10 < kd := by omega
  have H_t := Lib.hid (fun W => rhas_any ⟨#[]⟩ 116 W (by decide))
  rw [show hasL (⟨#[]⟩ : ByteArray).data.toList 116 = false from by decide] at H_t
  have H_l := Lib.hid (fun W => rhas_any ⟨#[]⟩ 108 W (by decide))
  rw [show hasL (⟨#[]⟩ : ByteArray).data.toList 108 = false from by decide] at H_l
  have H_c := Lib.hid (fun W => rhas_any ⟨#[]⟩ 99 W (by decide))
  rw [show hasL (⟨#[]⟩ : ByteArray).data.toList 99 = false from by decide] at H_c
  have H_k := Lib.hid (fun W => rhas_any ⟨#[]⟩ 107 W (by decide))
  rw [show hasL (⟨#[]⟩ : ByteArray).data.toList 107 = false from by decide] at H_k
  have H_o := Lib.hid (fun W => rhas_any ⟨#[]⟩ 111 W (by decide))
  rw [show hasL (⟨#[]⟩ : ByteArray).data.toList 111 = false from by decide] at H_o
  obtain ⟨fg, hfg⟩ : ∃ b, fitP true g 1 1048576 = b := ⟨_, rfl⟩
  have I_fg := Lib.hid (fun W => rin_any g 1 1048576 W)
  rw [hfg] at I_fg HE
  clear hfg
  obtain ⟨fn, hfn⟩ : ∃ b, fitP true nd 0 255 = b := ⟨_, rfl⟩
  have I_fn := Lib.hid (fun W => rin_any nd 0 255 W)
  rw [hfn] at I_fn HE
  clear hfn
  obtain ⟨ff, hff⟩ : ∃ b, fitP true fr 1 3 = b := ⟨_, rfl⟩
  have I_ff := Lib.hid (fun W => rin_any fr 1 3 W)
  rw [hff] at I_ff HE
  clear hff
  have HB := Lib.hid (below_new (w := w) (.cells #[.int .i64 kd, .int .i64 fr, .int .i64 tt, .int .i64 g, .int .i64 nd, .int .i64 tr, .int .i64 lw, .int .i64 co, .int .i64 ti, .slice tA tn tc, .slice oA on oc] 37))
  have hcap2 := hcap
  unfold maxLen at hcap2
  have ht8 : tn ≤ 9223372036854775807 := by omega
  have ho8 : on ≤ 9223372036854775807 := by omega
  clear ht ho hk hcap hcap2 htn hon hck hflags hrb hg
  go_enter Tryz.func88, Tryz.ntmps88
  go_wp2_with fail
  refine (HHS.out _).mono ?_
  rintro e w1 ⟨rfl, rfl⟩
  go_wp2_with fail
  refine (I_fg.out _).mono ?_
  rintro e w2 ⟨rfl, rfl⟩
  cases fg with
  | false =>
    go_wp2_with fail
    go_ret
    exact ⟨ret_bool (by rw [HE.out]; simp [fitP] <;> (intros; omega)), HB.out⟩
  | true =>
    go_wp2_with fail
    refine (I_fn.out _).mono ?_
    rintro e w2 ⟨rfl, rfl⟩
    cases fn with
    | false =>
      go_wp2_with fail
      go_ret
      exact ⟨ret_bool (by rw [HE.out]; simp [fitP] <;> (intros; omega)), HB.out⟩
    | true =>
      by_cases ztt : tt = 0
      case neg =>
        have qtt : (tt != 0) = true := by simpa using ztt
        go_wp2_with fail
        go_ret
        exact ⟨ret_bool (by rw [HE.out]; simp [fitP, ztt] <;> (intros; omega)), HB.out⟩
      subst ztt
      go_wp2_with fail
      refine (I_ff.out _).mono ?_
      rintro e w2 ⟨rfl, rfl⟩
      cases ff with
      | false =>
        go_wp2_with fail
        go_ret
        exact ⟨ret_bool (by rw [HE.out]; simp [fitP] <;> (intros; omega)), HB.out⟩
      | true =>
        go_wp2_with fail
        refine (H_t.out _).mono ?_
        rintro e w2 ⟨rfl, rfl⟩
        go_wp2_with fail
        refine (H_t.out _).mono ?_
        rintro e w2 ⟨rfl, rfl⟩
        by_cases ztr : tr = 0
        case neg =>
          have qtr : (tr != 0) = true := by simpa using ztr
          go_wp2_with fail
          go_ret
          exact ⟨ret_bool (by rw [HE.out]; simp [fitP, ztr] <;> (intros; omega)), HB.out⟩
        subst ztr
        go_wp2_with fail
        refine (H_l.out _).mono ?_
        rintro e w2 ⟨rfl, rfl⟩
        go_wp2_with fail
        refine (H_l.out _).mono ?_
        rintro e w2 ⟨rfl, rfl⟩
        by_cases zlw : lw = 0
        case neg =>
          have qlw : (lw != 0) = true := by simpa using zlw
          go_wp2_with fail
          go_ret
          exact ⟨ret_bool (by rw [HE.out]; simp [fitP, zlw] <;> (intros; omega)), HB.out⟩
        subst zlw
        go_wp2_with fail
        refine (H_c.out _).mono ?_
        rintro e w2 ⟨rfl, rfl⟩
        go_wp2_with fail
        refine (H_c.out _).mono ?_
        rintro e w2 ⟨rfl, rfl⟩
        by_cases zco : co = 0
        case neg =>
          have qco : (co != 0) = true := by simpa using zco
          go_wp2_with fail
          go_ret
          exact ⟨ret_bool (by rw [HE.out]; simp [fitP, zco] <;> (intros; omega)), HB.out⟩
        subst zco
        go_wp2_with fail
        refine (H_k.out _).mono ?_
        rintro e w2 ⟨rfl, rfl⟩
        go_wp2_with fail
        refine (H_k.out _).mono ?_
        rintro e w2 ⟨rfl, rfl⟩
        by_cases zti : ti = 0
        case neg =>
          have qti : (ti != 0) = true := by simpa using zti
          go_wp2_with fail
          go_ret
          exact ⟨ret_bool (by rw [HE.out]; simp [fitP, zti] <;> (intros; omega)), HB.out⟩
        subst zti
        by_cases ztn : tn = 0
        case neg =>
          have qtn : (0 : Int) < (tn : Int) := by omega
          have qtn3 : 0 < tn := by omega
          have qtn2 : ¬ (tn : Int) = 0 := by omega
          go_wp2_with fail
          go_ret
          exact ⟨ret_bool (by rw [HE.out]; simp [fitP, qtn2, ztn] <;> (intros; omega)), HB.out⟩
        subst ztn
        go_wp2_with fail
        refine (H_o.out _).mono ?_
        rintro e w2 ⟨rfl, rfl⟩
        go_wp2_with fail
        refine (H_o.out _).mono ?_
        rintro e w2 ⟨rfl, rfl⟩
        by_cases zon : on = 0
        · have zck : ck = 0 := HCN.out zon
          subst zon zck
          go_wp2_with fail
          go_ret
          exact ⟨ret_bool (by rw [HE.out]; simp [fitP] <;> (intros; omega)), HB.out⟩
        · have qon : (((on : Nat) : Int) == 0) = false := by simp; omega
          have qon2 : ¬ (on : Int) = 0 := by omega
          go_wp2_with fail
          go_ret
          exact ⟨ret_bool (by rw [HE.out]; simp [fitP, qon2, zon] <;> (intros; omega)), HB.out⟩
end Go.Proofs.YtmbonngjkgcijaaGreatDoor

namespace Go.Proofs.YtmbonngjkgcijaaGreatDoor
open Go.RowKit Go.Shelf

set_option maxRecDepth 100000 in
set_option maxHeartbeats 4000000 in
theorem rMay_none {w : World} {v : Value} {m : MsgV} (h : MsgIs w v m) (hg : ¬ ((1 ≤ m.kd ∧ m.kd ≤ 4) ∨ (11 ≤ m.kd ∧ m.kd ≤ 16))) :
    Calls Tryz.prog 88 #[v] w fun e w' => e = .returned (.bool (mayM m)) ∧ Below w.heap.size w w' := by
  obtain ⟨tA, tc, oA, oc, rfl, ht, ho, hk⟩ := h
  obtain ⟨kd, fr, tt, g, nd, tr, lw, co, ti, tl, os⟩ := m
  simp only at hg ⊢
  have HHS := Lib.hid (fun W => rHas_none hg W)
  have HE : Hid (mayM ⟨kd, fr, tt, g, nd, tr, lw, co, ti, tl, os⟩ = false) := Lib.hid (by
    unfold mayM
    simp only
    rw [(not_kind hg).1]
    rfl)
  have HB := Lib.hid (below_new (w := w) (.cells #[.int .i64 kd, .int .i64 fr, .int .i64 tt, .int .i64 g, .int .i64 nd, .int .i64 tr, .int .i64 lw, .int .i64 co, .int .i64 ti, .slice tA tl.length tc, .slice oA os.length oc] 37))
  clear hg ht ho hk
  go_enter Tryz.func88, Tryz.ntmps88
  go_wp2_with fail
  refine (HHS.out _).mono ?_
  rintro e w1 ⟨rfl, rfl⟩
  go_wp2_with fail
  go_ret
  exact ⟨ret_bool HE.out.symm, HB.out⟩
theorem rMay_any {w : World} {v : Value} {m : MsgV} (h : MsgIs w v m) (hti : m.ti ≤ 9223372036854775807) :
    Calls Tryz.prog 88 #[v] w fun e w' => e = .returned (.bool (mayM m)) ∧ Below w.heap.size w w' := by
  by_cases hg : (1 ≤ m.kd ∧ m.kd ≤ 4) ∨ (11 ≤ m.kd ∧ m.kd ≤ 16)
  · have hcs : (m.kd = 1 ∨ m.kd = 4) ∨ m.kd = 2 ∨ m.kd = 3 ∨ m.kd = 11 ∨ (m.kd = 12 ∨ m.kd = 14) ∨ (m.kd = 13 ∨ m.kd = 15 ∨ m.kd = 16) := by omega
    rcases hcs with hc | hc | hc | hc | hc | hc
    · exact rMay_A h (by simpa using hc) hti
    · exact rMay_B h (by simpa using hc) hti
    · exact rMay_C h (by simpa using hc) hti
    · exact rMay_D h (by simpa using hc) hti
    · exact rMay_E h (by simpa using hc) hti
    · exact rMay_F h (by simpa using hc) hti
  · exact rMay_none h hg
end Go.Proofs.YtmbonngjkgcijaaGreatDoor

namespace Go.Proofs.YtmbonngjkgcijaaGreatDoor
open Go.RowKit Go.Shelf Go.Lib

theorem own_one (w : World) (x : Int) (b : UInt8) (hx : x = (b.toNat : Int)) : OwnBy (w.alloc (.cells #[.int .u8 x] 5)) w.heap.size (.slice (some ⟨w.heap.size, 0, none⟩) 1 1) [b] := by
  subst hx
  exact .inr ⟨w.heap.size, 1, rfl, ⟨Nat.le_refl _, by simp, Nat.le_refl _, by unfold maxLen; omega, fun j c hj => by
    rw [cell_of_row _ _ _ _ _ _ (heap_alloc_new w _)]
    match j with
    | 0 => simp at hj; subst hj; rfl
    | j + 1 => simp at hj, fun j hj => ⟨by
      rw [cell_of_row _ _ _ _ _ _ (heap_alloc_new w _)]
      obtain rfl : j = 0 := by omega
      rfl, free0 (heap_alloc_new w _) j⟩⟩⟩
theorem byte_val (m : Nat) : ((m : Int) % 256) = ((UInt8.ofNat (m % 256)).toNat : Int) := by simp
set_option maxRecDepth 100000 in
set_option maxHeartbeats 2000000 in
theorem fnat_any (n : Nat) (hn : n ≤ 18446744073709551615) (w : World) :
    Calls Tryz.prog 129 #[.int .u64 (n : Int)] w fun e w' => ∃ v, e = .returned v ∧ OwnBy w' w.heap.size v (natB n) ∧ Below w.heap.size w w' := by
  have hs8 := sizeB_le n hn
  go_enter Tryz.func129, Tryz.ntmps129
  go_wp2_with fail
  go_loopg [0, 3] (sizeB n) (fun g m b wr => ∃ j : Nat, j ≤ sizeB n ∧ g = sizeB n - j ∧ m = .int .u64 ((n / 256 ^ j : Nat) : Int) ∧ OwnBy wr w.heap.size b (beB j n) ∧ Below w.heap.size w wr)
  case atStart => exact ⟨0, by omega, by omega, by simp, .inl ⟨rfl, rfl⟩, Below.refl _ _⟩
  case round =>
    obtain ⟨j, hj, hg, rfl, hown, hb⟩ := hrel
    have hG := Lib.hid hg
    clear hg
    have hm0 : n / 256 ^ j ≤ n := Nat.div_le_self _ _
    have hm1 : ((n / 256 ^ j : Nat) : Int) ≤ 18446744073709551615 := by omega
    have hsp := sizeB_spec n hn j
    generalize hm : n / 256 ^ j = m at *
    have HM := Lib.hid hm
    clear hm
    obtain ⟨Ab, cb, rfl⟩ := hown.len
    rw [beB_length] at hown ⊢
    by_cases hlt : j < sizeB n
    · have hmp : (0 : Int) < (m : Int) := by have := hsp.1 hlt; omega
      have HO := Lib.hid hown
      have HB := Lib.hid hb
      have src := Lib.hid (src_any (hown.below ((Below.refl _ _).alloc (Nat.le_refl _) (.cells #[.int .u8 ((m : Int) % 256)] 5))))
      rw [beB_length] at src
      have own := Lib.hid (own_one wr ((m : Int) % 256) (UInt8.ofNat (m % 256)) (byte_val m))
      clear hown hb hsp
      go_wp2_with (at_builtin; refine wpList_append_by _ rfl _ _ 54 rfl wr.heap.size [UInt8.ofNat (m % 256)] (beB j n) _ _ rfl rfl own.out ?_ ?_ ?_ ?_)
      · rw [beB_length]; exact src.out
      · rw [beB_length]; simp; omega
      · simp
      intro v' w' hown hg
      have hsz : w.heap.size ≤ wr.heap.size := HB.out.size
      have HOWN := Lib.hid (hown.mono hsz)
      have HB2 := Lib.hid ((HB.out.alloc hsz (.cells #[.int .u8 ((m : Int) % 256)] 5)).grown hg (by rw [World.size_alloc]; omega) (by intro k hk; cases hk; exact hsz))
      clear hown hg src own
      have q0 : (0 : Int) ≤ (m : Int) / 256 := by omega
      have q1 : (m : Int) / 256 ≤ 18446744073709551615 := by omega
      go_wp2
      go_roundg (sizeB n - (j + 1))
      case measure => rw [hG.out]; omega
      case rel =>
        refine ⟨j + 1, by omega, rfl, ?_, by rw [beB_cons, HM.out]; exact HOWN.out, HB2.out⟩
        rw [Nat.pow_succ, ← Nat.div_div_eq_div_mul, HM.out]
        simp
    · have hm : m = 0 := by
        have := mt hsp.2 hlt
        omega
      obtain rfl : j = sizeB n := by omega
      have HO := Lib.hid hown
      have HB := Lib.hid hb
      have src := Lib.hid (src_any (hown.below ((Below.refl _ _).alloc (Nat.le_refl _) (.cells #[.int .u8 ((sizeB n : Int))] 5))))
      rw [beB_length] at src
      have own := Lib.hid (own_one wr (sizeB n : Int) (UInt8.ofNat (sizeB n)) (by simp; omega))
      clear hown hb hsp
      subst hm
      generalize hs : sizeB n = s at *
      have HS := Lib.hid hs
      clear hs
      have r1 : (s : Int) % 256 = (s : Int) := by omega
      have r2 : (s : Int) ≤ 8 := by omega
      go_wp2_with (at_builtin; refine wpList_append_by _ rfl _ _ 54 rfl wr.heap.size [UInt8.ofNat s] (beB s n) _ _ rfl rfl own.out ?_ ?_ ?_ ?_)
      · rw [beB_length]; exact src.out
      · rw [beB_length]; simp; omega
      · simp
      intro v' w' hown hg
      have hsz : w.heap.size ≤ wr.heap.size := HB.out.size
      have HOWN := Lib.hid (hown.mono hsz)
      have HB2 := Lib.hid ((HB.out.alloc hsz (.cells #[.int .u8 (s : Int)] 5)).grown hg (by rw [World.size_alloc]; omega) (by intro k hk; cases hk; exact hsz))
      clear hown hg src own
      go_wp2
      go_ret
      refine ⟨_, rfl, ?_, HB2.out⟩
      unfold natB
      rw [HS.out]
      exact HOWN.out
set_option maxRecDepth 100000 in
set_option maxHeartbeats 1000000 in
theorem fnum_any (m : Int) (h0 : -9223372036854775808 ≤ m) (h1 : m ≤ 9223372036854775807) (w : World) :
    Calls Tryz.prog 130 #[.int .i64 m] w fun e w' => ∃ v, e = .returned v ∧ OwnBy w' w.heap.size v (natB (numN m)) ∧ Below w.heap.size w w' := by
  have HN := Lib.hid (fnat_any (numN m) (by unfold numN; split <;> omega) w)
  by_cases hm : m < 0
  · have HE : Hid ((numN m : Int) = 2 * (-1 - m) + 1) := by show (numN m : Int) = _; unfold numN; rw [if_pos hm]; omega
    go_enter Tryz.func130, Tryz.ntmps130
    go_wp2_with fail
    rw [show (2 * (-1 - m) + 1 : Int) = (numN m : Int) from HE.out.symm]
    refine (HN.out).mono ?_
    rintro e w1 ⟨v, rfl, hO, hB⟩
    have HO := Lib.hid hO
    have HB := Lib.hid hB
    clear hO hB
    go_wp2
    go_ret
    exact ⟨_, rfl, HO.out, HB.out⟩
  · have HE : Hid ((numN m : Int) = 2 * m) := by show (numN m : Int) = _; unfold numN; rw [if_neg hm]; omega
    have hm' : 0 ≤ m := by omega
    clear hm
    go_enter Tryz.func130, Tryz.ntmps130
    go_wp2_with fail
    rw [show (2 * m : Int) = (numN m : Int) from HE.out.symm]
    refine (HN.out).mono ?_
    rintro e w1 ⟨v, rfl, hO, hB⟩
    have HO := Lib.hid hO
    have HB := Lib.hid hB
    clear hO hB
    go_wp2
    go_ret
    exact ⟨_, rfl, HO.out, HB.out⟩
theorem src_bytes (w : World) (s : ByteArray) : Src Tryz.prog 1 54 (.slice (some ⟨w.heap.size, 0, none⟩) s.size (grownCap w s.size 0 5)) s.data.toList.length (bc s.data.toList) (Lib.bytesWorld w 5 s) := by
  have hl : s.data.toList.length = s.size := by simp
  have := Src.ofSlice (w := Lib.bytesWorld w 5 s) (size := 1) (P := Tryz.prog) Tryz.underlying54 ⟨w.heap.size, 0, none⟩ s.size (grownCap w s.size 0 5) (bc s.data.toList) (by rw [bc_length, hl]; omega) (fun j u hu => by
    obtain ⟨b, hb, rfl⟩ := bc_at hu
    have hj : j < s.size := by rw [← hl]; exact (List.getElem?_eq_some_iff.1 hb).1
    rw [add0, Lib.bytesWorld_cell w 5 s j hj]
    simp only [List.getD, hb]; rfl) (bc_one _)
  rw [hl]; exact this
set_option maxRecDepth 100000 in
set_option maxHeartbeats 1000000 in
theorem fstr_any (s : ByteArray) (hs : s.size ≤ 536870912) (w : World) :
    Calls Tryz.prog 132 #[.string s] w fun e w' => ∃ v, e = .returned v ∧ OwnBy w' w.heap.size v (strB s) ∧ Below w.heap.size w w' := by
  have HN := Lib.hid (fnat_any s.size (by omega) w)
  have hz : (s.size : Int) ≤ 536870912 := by omega
  have hz0 : (0 : Int) ≤ (s.size : Int) := by omega
  go_enter Tryz.func132, Tryz.ntmps132
  go_wp2_with fail
  refine (HN.out).mono ?_
  rintro e w1 ⟨v, rfl, hO, hB⟩
  have HO := Lib.hid hO
  have HB := Lib.hid hB
  clear hO hB
  go_wp2_with fail
  rw [Lib.run_convert_string_bytes (P := Tryz.prog) w1 9 54 5 s Tryz.underlying9 Tryz.underlying54 Tryz.underlying5]
  have hb2 := Lib.bytesWorld_below w1 5 s
  have src := src_bytes w1 s
  have HOv := Lib.hid (HO.out.below hb2)
  have HB2 := Lib.hid (HB.out.trans (hb2.mono HB.out.size))
  generalize Lib.bytesWorld w1 5 s = w2 at *
  generalize grownCap w1 s.size 0 5 = cap at *
  have SRC := Lib.hid src
  have hlen : (natB s.size).length + s.data.toList.length ≤ 1073741824 := by
    have := sizeB_le s.size (by omega)
    have h2 : s.data.toList.length = s.size := by simp
    rw [natB_len, h2]; omega
  have HL := Lib.hid hlen
  clear hb2 src hlen
  go_wp2_with (at_builtin; refine wpList_append_by _ rfl _ _ 54 rfl w.heap.size (natB s.size) s.data.toList _ _ rfl rfl HOv.out SRC.out HL.out HB2.out.size ?_)
  intro v' w' hown hg
  have HO' := Lib.hid hown
  have HB' := Lib.hid (HB2.out.grown hg HB2.out.size HOv.out.rows)
  clear hown hg
  go_wp2
  go_ret
  exact ⟨_, rfl, HO'.out, HB'.out⟩
end Go.Proofs.YtmbonngjkgcijaaGreatDoor

namespace Go.Proofs.YtmbonngjkgcijaaGreatDoor
open Go.RowKit Go.Shelf

theorem OwnBy.ne_box {w : World} {b : Nat} {v : Value} {l : List UInt8} (h : OwnBy w b v l) (hl : l ≠ []) {k : Nat} {z : Int} (hc : w.cell? ⟨k, 0, none⟩ = some (.int .i64 z)) : ∀ g, v.ownBlock = some g → g ≠ k := fun g e e2 => by
  subst e2
  rcases h with ⟨rfl, _⟩ | ⟨g', cap, rfl, h⟩
  · cases e
  · cases e
    have h0 : 0 < l.length := List.length_pos_iff.2 hl
    have := h.holds 0 l[0] (List.getElem?_eq_getElem h0)
    rw [this] at hc
    cases hc
set_option maxRecDepth 100000 in
set_option maxHeartbeats 8000000 in
theorem ropsenc_any {w : World} {v : Value} {l : List OpV} (h : OpsAt w v l) (hx : OpsOk l) (hl : l.length ≤ 1000) :
    Calls Tryz.prog 133 #[v] w fun e w' => ∃ v', e = .returned v' ∧ OwnBy w' w.heap.size v' (opsB l) ∧ Below w.heap.size w w' := by
  obtain ⟨A, cap, rfl, hc1, hc2, hcell⟩ := h.form
  unfold maxLen at hc2
  have HC := Lib.hid hcell
  have HX := Lib.hid hx
  obtain ⟨m, hm⟩ : ∃ m, l.length = m := ⟨_, rfl⟩
  have HM := Lib.hid hm
  rw [hm] at hc1 hl ⊢
  have hmI : (m : Int) ≤ 1000 := by omega
  have hmw : IntKind.u64.wrap (m : Int) = (m : Int) := by rw [IntKind.wrap_u64]; omega
  have HNT := Lib.hid (fnat_any m (by omega) w)
  have HN9 := Lib.hid (natB_le m (by omega))
  clear hcell hx hm h
  go_enter Tryz.func133, Tryz.ntmps133
  go_wp2_with fail
  refine (HNT.out).mono ?_
  rintro e w1 ⟨v1, rfl, ho1, hb1⟩
  have HO1 := Lib.hid ho1
  have HB1 := Lib.hid hb1
  obtain ⟨A1, c1, rfl⟩ := ho1.len
  clear ho1 hb1 HNT hmw
  go_wp2_with fail
  go_loopw [3, 12] (fun bv iv wr => ∃ (i : Nat) (B : List UInt8), i ≤ m ∧ iv = .int .i64 i ∧ B = natB m ++ (l.take i).flatMap opB ∧ B.length ≤ 9 + i * 1100 ∧ OwnBy wr w.heap.size bv B ∧ Below w.heap.size w wr) (fun _ iv _ => m - (intOf iv).toNat)
  case atStart => exact ⟨0, _, Nat.zero_le _, rfl, by simp, by simpa using HN9.out, HO1.out, HB1.out⟩
  case round =>
    obtain ⟨i, B, hi, rfl, hB, hBl, ho, hbw⟩ := hrel
    by_cases hlt : i < m
    · obtain ⟨o, hoi⟩ : ∃ o, l[i]? = some o := ⟨_, List.getElem?_eq_getElem (by rw [HM.out]; exact hlt)⟩
      obtain ⟨a, rfl, q1, k0, k1, k2, k3⟩ := HC.out i o hoi
      have hblk : (a.add (i * 4)).block < w.heap.size := by rw [add_block]; exact q1
      replace k0 := (hbw.cell hblk).trans k0
      replace k1 := (hbw.cell (p := ⟨(a.add (i * 4)).block, (a.add (i * 4)).off + 1, none⟩) hblk).trans k1
      replace k2 := (hbw.cell (p := ⟨(a.add (i * 4)).block, (a.add (i * 4)).off + 2, none⟩) hblk).trans k2
      replace k3 := (hbw.cell (p := ⟨(a.add (i * 4)).block, (a.add (i * 4)).off + 3, none⟩) hblk).trans k3
      obtain ⟨g0, g1, g2⟩ := HX.out o (List.mem_of_getElem? hoi)
      have hol := opB_le' g1 g0 g2
      have HOL := Lib.hid (show B.length + (opB o).length ≤ 1073741824 ∧ natB m ++ (l.take (i + 1)).flatMap opB = B ++ opB o ∧ (B ++ opB o).length ≤ 9 + (i + 1) * 1100 from ⟨by omega, by rw [flat_snocM hoi, hB, List.append_assoc], by rw [List.length_append]; omega⟩)
      obtain ⟨kd, s, n, lo⟩ := o
      simp only at k0 k1 k2 k3 g0 g1
      obtain ⟨kn, rfl⟩ : ∃ kn : Nat, kd = kn := ⟨kd.toNat, by omega⟩
      have hkn : kn ≤ 9223372036854775807 := by have := g2.k.2; simp only at this; omega
      have HKW : IntKind.u64.wrap (kn : Int) = (kn : Int) := by rw [IntKind.wrap_u64]; omega
      have hW1 := below_new (w := wr) (.cells #[.int .i64 kn, .string s, .int .i64 n, .int .i64 lo] 168)
      have hat := alloc_at wr (.cells #[.int .i64 kn, .string s, .int .i64 n, .int .i64 lo] 168)
      have HBW := Lib.hid (hbw.trans (hW1.mono hbw.size))
      have HOW := Lib.hid (ho.below hW1)
      have HNK := Lib.hid (fun W => fnat_any kn (by omega) W)
      have HST := Lib.hid (fun W => fstr_any s (by omega) W)
      have HNU := Lib.hid (fun W => fnum_any n g2.n.1 g2.n.2 W)
      have HLO := Lib.hid (fun W => fnum_any lo g2.lo.1 g2.lo.2 W)
      have HEQ : Hid (B ++ opB ⟨kn, s, n, lo⟩ = (((B ++ natB kn) ++ strB s) ++ natB (numN n)) ++ natB (numN lo)) := Lib.hid (by unfold opB; simp only [Int.toNat_natCast, List.append_assoc])
      have HLE : Hid (B.length + (natB kn).length + (strB s).length + (natB (numN n)).length + (natB (numN lo)).length ≤ 1073741824) := Lib.hid (by
        have := HOL.out.1
        unfold opB at this
        simp only [List.length_append, Int.toNat_natCast] at this
        omega)
      obtain ⟨Ab, cb, rfl⟩ := ho.len
      have hiI : (i : Int) < (m : Int) := by omega
      have HLT := Lib.hid hlt
      have HBN : Hid (B ≠ []) := Lib.hid (by rw [hB]; unfold natB; simp)
      have HAT := Lib.hid hat
      clear hoi q1 hblk g0 g1 g2 hol hB hBl ho hbw hlt hi hW1 hat hkn
      go_wp2_with fail
      refine (HNK.out _).mono ?_
      rintro e wa1 ⟨va1, rfl, ho, hb⟩
      have HOL1 := Lib.hid (HOW.out.below hb)
      have HSR1 := Lib.hid (src_any ho)
      have HBa1 := Lib.hid (HBW.out.trans (hb.mono HBW.out.size))
      have HAa1 := Lib.hid ((hb.block wr.heap.size (heap_lt HAT.out)).trans HAT.out)
      obtain ⟨Aa1, ca1, rfl⟩ := ho.len
      have HLn1 : Hid (B.length + (natB kn).length ≤ 1073741824) := Lib.hid (by have := HLE.out; omega)
      clear ho hb k0 k1 k2 k3
      go_wp2_with (at_builtin; refine wpList_append_by _ rfl _ _ 54 rfl w.heap.size B (natB kn) _ _ rfl rfl HOL1.out HSR1.out HLn1.out HBa1.out.size ?_)
      intro vb1 wb1 ho hg
      obtain ⟨C1, hC⟩ : ∃ C, C = B ++ natB kn := ⟨_, rfl⟩
      rw [← hC] at ho
      have HC1 := Lib.hid hC
      clear hC
      have HOx1 := Lib.hid ho
      obtain ⟨Av1, cv1, rfl⟩ := ho.len
      have HBx1 := Lib.hid (HBa1.out.grown hg HBa1.out.size HOL1.out.rows)
      have hAx := (hg.block wr.heap.size (heap_lt HAa1.out) (fun e => HOL1.out.ne_box HBN.out (cell_of HAa1.out 0) _ e.symm rfl)).trans HAa1.out
      have HBN1 : Hid (C1 ≠ []) := Lib.hid (by rw [HC1.out]; simp [HBN.out])
      have HAx1 := Lib.hid hAx
      have z1 := cell_of hAx 1; have z2 := cell_of hAx 2; have z3 := cell_of hAx 3
      simp at z1 z2 z3
      clear hAx
      clear ho hg
      go_wp2_with fail
      refine (HST.out _).mono ?_
      rintro e wa2 ⟨va2, rfl, ho, hb⟩
      have HOL2 := Lib.hid (HOx1.out.below hb)
      have HSR2 := Lib.hid (src_any ho)
      have HBa2 := Lib.hid (HBx1.out.trans (hb.mono HBx1.out.size))
      have HAa2 := Lib.hid ((hb.block wr.heap.size (heap_lt HAx1.out)).trans HAx1.out)
      obtain ⟨Aa2, ca2, rfl⟩ := ho.len
      have HLn2 : Hid (C1.length + (strB s).length ≤ 1073741824) := Lib.hid (by have := HLE.out; rw [HC1.out]; simp only [List.length_append]; omega)
      clear ho hb z1 z2 z3
      go_wp2_with (at_builtin; refine wpList_append_by _ rfl _ _ 54 rfl w.heap.size C1 (strB s) _ _ rfl rfl HOL2.out HSR2.out HLn2.out HBa2.out.size ?_)
      intro vb2 wb2 ho hg
      obtain ⟨C2, hC⟩ : ∃ C, C = C1 ++ strB s := ⟨_, rfl⟩
      rw [← hC] at ho
      have HC2 := Lib.hid hC
      clear hC
      have HOx2 := Lib.hid ho
      obtain ⟨Av2, cv2, rfl⟩ := ho.len
      have HBx2 := Lib.hid (HBa2.out.grown hg HBa2.out.size HOL2.out.rows)
      have hAx := (hg.block wr.heap.size (heap_lt HAa2.out) (fun e => HOL2.out.ne_box HBN1.out (cell_of HAa2.out 0) _ e.symm rfl)).trans HAa2.out
      have HBN2 : Hid (C2 ≠ []) := Lib.hid (by rw [HC2.out]; simp [HBN1.out])
      have HAx2 := Lib.hid hAx
      have z1 := cell_of hAx 1; have z2 := cell_of hAx 2; have z3 := cell_of hAx 3
      simp at z1 z2 z3
      clear hAx
      clear ho hg
      go_wp2_with fail
      refine (HNU.out _).mono ?_
      rintro e wa3 ⟨va3, rfl, ho, hb⟩
      have HOL3 := Lib.hid (HOx2.out.below hb)
      have HSR3 := Lib.hid (src_any ho)
      have HBa3 := Lib.hid (HBx2.out.trans (hb.mono HBx2.out.size))
      have HAa3 := Lib.hid ((hb.block wr.heap.size (heap_lt HAx2.out)).trans HAx2.out)
      obtain ⟨Aa3, ca3, rfl⟩ := ho.len
      have HLn3 : Hid (C2.length + (natB (numN n)).length ≤ 1073741824) := Lib.hid (by have := HLE.out; rw [HC2.out, HC1.out]; simp only [List.length_append]; omega)
      clear ho hb z1 z2 z3
      go_wp2_with (at_builtin; refine wpList_append_by _ rfl _ _ 54 rfl w.heap.size C2 (natB (numN n)) _ _ rfl rfl HOL3.out HSR3.out HLn3.out HBa3.out.size ?_)
      intro vb3 wb3 ho hg
      obtain ⟨C3, hC⟩ : ∃ C, C = C2 ++ natB (numN n) := ⟨_, rfl⟩
      rw [← hC] at ho
      have HC3 := Lib.hid hC
      clear hC
      have HOx3 := Lib.hid ho
      obtain ⟨Av3, cv3, rfl⟩ := ho.len
      have HBx3 := Lib.hid (HBa3.out.grown hg HBa3.out.size HOL3.out.rows)
      have hAx := (hg.block wr.heap.size (heap_lt HAa3.out) (fun e => HOL3.out.ne_box HBN2.out (cell_of HAa3.out 0) _ e.symm rfl)).trans HAa3.out
      have HBN3 : Hid (C3 ≠ []) := Lib.hid (by rw [HC3.out]; simp [HBN2.out])
      have HAx3 := Lib.hid hAx
      have z1 := cell_of hAx 1; have z2 := cell_of hAx 2; have z3 := cell_of hAx 3
      simp at z1 z2 z3
      clear hAx
      clear ho hg
      go_wp2_with fail
      refine (HLO.out _).mono ?_
      rintro e wa4 ⟨va4, rfl, ho, hb⟩
      have HOL4 := Lib.hid (HOx3.out.below hb)
      have HSR4 := Lib.hid (src_any ho)
      have HBa4 := Lib.hid (HBx3.out.trans (hb.mono HBx3.out.size))
      have HAa4 := Lib.hid ((hb.block wr.heap.size (heap_lt HAx3.out)).trans HAx3.out)
      obtain ⟨Aa4, ca4, rfl⟩ := ho.len
      have HLn4 : Hid (C3.length + (natB (numN lo)).length ≤ 1073741824) := Lib.hid (by have := HLE.out; rw [HC3.out, HC2.out, HC1.out]; simp only [List.length_append]; omega)
      clear ho hb z1 z2 z3
      go_wp2_with (at_builtin; refine wpList_append_by _ rfl _ _ 54 rfl w.heap.size C3 (natB (numN lo)) _ _ rfl rfl HOL4.out HSR4.out HLn4.out HBa4.out.size ?_)
      intro vb4 wb4 ho hg
      obtain ⟨C4, hC⟩ : ∃ C, C = C3 ++ natB (numN lo) := ⟨_, rfl⟩
      rw [← hC] at ho
      have HC4 := Lib.hid hC
      clear hC
      have HOx4 := Lib.hid ho
      obtain ⟨Av4, cv4, rfl⟩ := ho.len
      have HBx4 := Lib.hid (HBa4.out.grown hg HBa4.out.size HOL4.out.rows)
      clear ho hg
      go_wp2_with fail
      go_roundw
      case rel => exact ⟨i + 1, _, HLT.out, by go_num, HOL.out.2.1.symm, HOL.out.2.2, by rw [HEQ.out, ← HC1.out, ← HC2.out, ← HC3.out, ← HC4.out]; exact HOx4.out, HBx4.out⟩
      case measure => have := HLT.out; simp [intOf]; omega
    · obtain rfl : i = m := by omega
      rw [List.take_of_length_le (by rw [HM.out]; omega)] at hB
      have en : natB i ++ l.flatMap opB = opsB l := by unfold opsB; rw [HM.out]
      rw [en] at hB
      subst hB
      have HO := Lib.hid ho
      have HB := Lib.hid hbw
      obtain ⟨Ab, cb, rfl⟩ := ho.len
      clear ho hBl hbw en
      go_wp2_with fail
      go_ret
      exact ⟨_, rfl, HO.out, HB.out⟩
end Go.Proofs.YtmbonngjkgcijaaGreatDoor
