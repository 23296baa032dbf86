/- The document's own May of messages, kinds [1, 4] (genmehc.py wrote it.) The document's own May of messages, kinds [2] (genmehc.py wrote it.) The document's own May of messages, kinds [3] (genmehc.py wrote it.) The document's own May of messages, kinds [11] (genmehc.py wrote it.) The document's own May of messages, kinds [12, 14] (genmehc.py wrote it.) The document's own May of messages, kinds [13, 15, 16] (genmehc.py wrote it.) -/
import Derived.Test.YtabfbnpbgdlinaaGreatDoorZMehC
set_option linter.unusedSimpArgs false
set_option linter.unusedVariables false
set_option linter.unnecessarySimpa false
namespace Go.Proofs.YtabfbnpbgdlinaaGreatDoor
open Go.RowKit Go.Shelf

set_option maxRecDepth 100000 in
set_option maxHeartbeats 8000000 in
theorem rMay_A {w : World} {v : Value} {m : MsgV} (h : MsgIs w v m) (hg : m.kd ∈ ([1, 4] : List Int)) (hti : m.ti ≤ 9223372036854775807) :
    Calls Tryz.prog 78 #[v] w fun e w' => e = .returned (.bool (mayM m)) ∧ Below w.heap.size w w' := by
  obtain ⟨tA, tc, oA, oc, rfl, ht, ho, hk⟩ := h
  obtain ⟨kd, fr, tt, g, nd, tr, lw, co, ti, tl, os⟩ := m
  simp only at ht ho hk hg hti ⊢
  have HTI := Lib.hid hti
  clear hti
  have HCK := Lib.hid (fun W (hW : Below w.heap.size w W) => rcheck_any (ho.below hW) hk)
  have hcap : tl.length ≤ tc ∧ tc ≤ maxLen ∧ os.length ≤ oc ∧ oc ≤ maxLen := by
    obtain ⟨_, _, e, h1, h2, _⟩ := ht
    obtain ⟨_, _, e', h3, h4, _⟩ := ho.form
    injection e with _ _ e
    injection e' with _ _ e'
    subst e e'
    exact ⟨h1, h2, h3, h4⟩
  obtain ⟨tn, htn⟩ : ∃ n, tl.length = n := ⟨_, rfl⟩
  obtain ⟨on, hon⟩ : ∃ n, os.length = n := ⟨_, rfl⟩
  rw [hon] at HCK
  rw [htn, hon] at hcap ⊢
  obtain ⟨ck, hck⟩ : ∃ c, checkO os = c := ⟨_, rfl⟩
  rw [hck] at HCK
  have HHS := Lib.hid (fun W => rHas_A hg W)
  simp only [List.mem_cons, List.not_mem_nil, or_false] at hg
  have hflags : kindM kd = true ∧ lowM kd = true ∧ tryM kd = true ∧ opsM kd = true ∧ toldM kd = false ∧ codeM kd = false := by
    unfold kindM lowM tryM opsM toldM codeM
    simp only [decide_eq_true_eq, decide_eq_false_iff_not]
    omega
  have HE : Hid (mayM ⟨kd, fr, tt, g, nd, tr, lw, co, ti, tl, os⟩ = (fitP false fr 1 3 && (fitP true tt 1 3 && (fitP true g 1 1048576 && (fitP true nd 0 255 && (fitP true tr 0 1048576 && (fitP true lw 1 1048577 && (fitP false co 1 99 && (fitP false ti 0 9223372036854775807 && (fitP false (tn : Int) 0 8 && (fitP true (on : Int) 0 8 && decide (ck = 0)))))))))))) := Lib.hid (by
    obtain ⟨e1, e2, e3, e4, e5, e6⟩ := hflags
    unfold mayM
    simp only
    rw [htn, hon, hck, e1, e2, e3, e4, e5, e6]
    rfl)
  obtain ⟨rb, hrb⟩ : ∃ b, mayM ⟨kd, fr, tt, g, nd, tr, lw, co, ti, tl, os⟩ = b := ⟨_, rfl⟩
  rw [hrb] at HE ⊢
  have HCO := Lib.hid (show on ≤ 8 ∨ ck ≠ 0 from by
    rw [← hck, ← hon]
    by_cases h : os.length ≤ 8
    · exact .inl h
    · right; unfold checkO; rw [if_pos (by omega)]; decide)
  have HCN := Lib.hid (show on = 0 → ck = 0 from fun h => by
    rw [← hck]
    have : os = [] := List.length_eq_zero_iff.1 (by rw [hon]; exact h)
    subst this
    rfl)
  have hk1 : kd < 10 := by omega
  have hk2 : ¬ 10 < kd := by omega
  have H_t := Lib.hid (fun W => rhas_any ⟨#[116, 108, 111]⟩ 116 W (by decide))
  rw [show hasL (⟨#[116, 108, 111]⟩ : ByteArray).data.toList 116 = true from by decide] at H_t
  have H_l := Lib.hid (fun W => rhas_any ⟨#[116, 108, 111]⟩ 108 W (by decide))
  rw [show hasL (⟨#[116, 108, 111]⟩ : ByteArray).data.toList 108 = true from by decide] at H_l
  have H_c := Lib.hid (fun W => rhas_any ⟨#[116, 108, 111]⟩ 99 W (by decide))
  rw [show hasL (⟨#[116, 108, 111]⟩ : ByteArray).data.toList 99 = false from by decide] at H_c
  have H_k := Lib.hid (fun W => rhas_any ⟨#[116, 108, 111]⟩ 107 W (by decide))
  rw [show hasL (⟨#[116, 108, 111]⟩ : ByteArray).data.toList 107 = false from by decide] at H_k
  have H_o := Lib.hid (fun W => rhas_any ⟨#[116, 108, 111]⟩ 111 W (by decide))
  rw [show hasL (⟨#[116, 108, 111]⟩ : ByteArray).data.toList 111 = true from by decide] at H_o
  obtain ⟨fg, hfg⟩ : ∃ b, fitP true g 1 1048576 = b := ⟨_, rfl⟩
  have I_fg := Lib.hid (fun W => rin_any g 1 1048576 W)
  rw [hfg] at I_fg HE
  clear hfg
  obtain ⟨fn, hfn⟩ : ∃ b, fitP true nd 0 255 = b := ⟨_, rfl⟩
  have I_fn := Lib.hid (fun W => rin_any nd 0 255 W)
  rw [hfn] at I_fn HE
  clear hfn
  obtain ⟨ft, hft⟩ : ∃ b, fitP true tt 1 3 = b := ⟨_, rfl⟩
  have I_ft := Lib.hid (fun W => rin_any tt 1 3 W)
  rw [hft] at I_ft HE
  clear hft
  obtain ⟨fy, hfy⟩ : ∃ b, fitP true tr 0 1048576 = b := ⟨_, rfl⟩
  have I_fy := Lib.hid (fun W => rin_any tr 0 1048576 W)
  rw [hfy] at I_fy HE
  clear hfy
  obtain ⟨fl, hfl⟩ : ∃ b, fitP true lw 1 1048577 = b := ⟨_, rfl⟩
  have I_fl := Lib.hid (fun W => rin_any lw 1 1048577 W)
  rw [hfl] at I_fl HE
  clear hfl
  have HB := Lib.hid (below_new (w := w) (.cells #[.int .i64 kd, .int .i64 fr, .int .i64 tt, .int .i64 g, .int .i64 nd, .int .i64 tr, .int .i64 lw, .int .i64 co, .int .i64 ti, .slice tA tn tc, .slice oA on oc] 37))
  have hcap2 := hcap
  unfold maxLen at hcap2
  have ht8 : tn ≤ 9223372036854775807 := by omega
  have ho8 : on ≤ 9223372036854775807 := by omega
  clear ht ho hk hcap hcap2 htn hon hck hflags hrb hg
  go_enter Tryz.func78, Tryz.ntmps78
  go_wp2_with fail
  refine (HHS.out _).mono ?_
  rintro e w1 ⟨rfl, rfl⟩
  go_wp2_with fail
  refine (I_fg.out _).mono ?_
  rintro e w2 ⟨rfl, rfl⟩
  cases fg with
  | false =>
    go_wp2_with fail
    go_ret
    exact ⟨ret_bool (by rw [HE.out]; simp [fitP] <;> (intros; omega)), HB.out⟩
  | true =>
    go_wp2_with fail
    refine (I_fn.out _).mono ?_
    rintro e w2 ⟨rfl, rfl⟩
    cases fn with
    | false =>
      go_wp2_with fail
      go_ret
      exact ⟨ret_bool (by rw [HE.out]; simp [fitP] <;> (intros; omega)), HB.out⟩
    | true =>
      by_cases zfr : fr = 0
      case neg =>
        have qfr : (fr != 0) = true := by simpa using zfr
        go_wp2_with fail
        go_ret
        exact ⟨ret_bool (by rw [HE.out]; simp [fitP, zfr] <;> (intros; omega)), HB.out⟩
      subst zfr
      go_wp2_with fail
      refine (I_ft.out _).mono ?_
      rintro e w2 ⟨rfl, rfl⟩
      cases ft with
      | false =>
        go_wp2_with fail
        go_ret
        exact ⟨ret_bool (by rw [HE.out]; simp [fitP] <;> (intros; omega)), HB.out⟩
      | true =>
        go_wp2_with fail
        refine (H_t.out _).mono ?_
        rintro e w2 ⟨rfl, rfl⟩
        go_wp2_with fail
        refine (I_fy.out _).mono ?_
        rintro e w2 ⟨rfl, rfl⟩
        cases fy with
        | false =>
          go_wp2_with fail
          go_ret
          exact ⟨ret_bool (by rw [HE.out]; simp [fitP] <;> (intros; omega)), HB.out⟩
        | true =>
          go_wp2_with fail
          refine (H_t.out _).mono ?_
          rintro e w2 ⟨rfl, rfl⟩
          go_wp2_with fail
          refine (H_l.out _).mono ?_
          rintro e w2 ⟨rfl, rfl⟩
          go_wp2_with fail
          refine (I_fl.out _).mono ?_
          rintro e w2 ⟨rfl, rfl⟩
          cases fl with
          | false =>
            go_wp2_with fail
            go_ret
            exact ⟨ret_bool (by rw [HE.out]; simp [fitP] <;> (intros; omega)), HB.out⟩
          | true =>
            go_wp2_with fail
            refine (H_l.out _).mono ?_
            rintro e w2 ⟨rfl, rfl⟩
            go_wp2_with fail
            refine (H_c.out _).mono ?_
            rintro e w2 ⟨rfl, rfl⟩
            go_wp2_with fail
            refine (H_c.out _).mono ?_
            rintro e w2 ⟨rfl, rfl⟩
            by_cases zco : co = 0
            case neg =>
              have qco : (co != 0) = true := by simpa using zco
              go_wp2_with fail
              go_ret
              exact ⟨ret_bool (by rw [HE.out]; simp [fitP, zco] <;> (intros; omega)), HB.out⟩
            subst zco
            go_wp2_with fail
            refine (H_k.out _).mono ?_
            rintro e w2 ⟨rfl, rfl⟩
            go_wp2_with fail
            refine (H_k.out _).mono ?_
            rintro e w2 ⟨rfl, rfl⟩
            by_cases zti : ti = 0
            case neg =>
              have qti : (ti != 0) = true := by simpa using zti
              go_wp2_with fail
              go_ret
              exact ⟨ret_bool (by rw [HE.out]; simp [fitP, zti] <;> (intros; omega)), HB.out⟩
            subst zti
            by_cases ztn : tn = 0
            case neg =>
              have qtn : (0 : Int) < (tn : Int) := by omega
              have qtn3 : 0 < tn := by omega
              have qtn2 : ¬ (tn : Int) = 0 := by omega
              go_wp2_with fail
              go_ret
              exact ⟨ret_bool (by rw [HE.out]; simp [fitP, qtn2, ztn] <;> (intros; omega)), HB.out⟩
            subst ztn
            go_wp2_with fail
            refine (H_o.out _).mono ?_
            rintro e w2 ⟨rfl, rfl⟩
            go_wp2_with fail
            refine (HCK.out _ HB.out).mono ?_
            rintro e w3 ⟨rfl, hb3⟩
            have HB3 := Lib.hid (HB.out.trans (hb3.mono HB.out.size))
            clear hb3
            by_cases zck : ck = 0
            · subst zck
              have hon8 : on ≤ 8 := by
                rcases HCO.out with h | h
                · exact h
                · exact absurd rfl h
              have hon9 : (on : Int) ≤ 8 := by omega
              go_wp2_with fail
              refine ((fun h : True => ?_) trivial)
              go_ret
              exact ⟨ret_bool (by rw [HE.out]; simp [fitP, hon9] <;> (intros; omega)), HB3.out⟩
            · have qck : (((ck : Nat) : Int) == 0) = false := by simp; omega
              go_wp2_with fail
              refine (H_o.out _).mono ?_
              rintro e w4 ⟨rfl, rfl⟩
              go_wp2_with fail
              go_ret
              exact ⟨ret_bool (by rw [HE.out]; simp [zck] <;> (intros; omega)), HB3.out⟩
end Go.Proofs.YtabfbnpbgdlinaaGreatDoor

namespace Go.Proofs.YtabfbnpbgdlinaaGreatDoor
open Go.RowKit Go.Shelf

set_option maxRecDepth 100000 in
set_option maxHeartbeats 8000000 in
theorem rMay_B {w : World} {v : Value} {m : MsgV} (h : MsgIs w v m) (hg : m.kd ∈ ([2] : List Int)) (hti : m.ti ≤ 9223372036854775807) :
    Calls Tryz.prog 78 #[v] w fun e w' => e = .returned (.bool (mayM m)) ∧ Below w.heap.size w w' := by
  obtain ⟨tA, tc, oA, oc, rfl, ht, ho, hk⟩ := h
  obtain ⟨kd, fr, tt, g, nd, tr, lw, co, ti, tl, os⟩ := m
  simp only at ht ho hk hg hti ⊢
  have HTI := Lib.hid hti
  clear hti
  have HCK := Lib.hid (fun W (hW : Below w.heap.size w W) => rcheck_any (ho.below hW) hk)
  have hcap : tl.length ≤ tc ∧ tc ≤ maxLen ∧ os.length ≤ oc ∧ oc ≤ maxLen := by
    obtain ⟨_, _, e, h1, h2, _⟩ := ht
    obtain ⟨_, _, e', h3, h4, _⟩ := ho.form
    injection e with _ _ e
    injection e' with _ _ e'
    subst e e'
    exact ⟨h1, h2, h3, h4⟩
  obtain ⟨tn, htn⟩ : ∃ n, tl.length = n := ⟨_, rfl⟩
  obtain ⟨on, hon⟩ : ∃ n, os.length = n := ⟨_, rfl⟩
  rw [hon] at HCK
  rw [htn, hon] at hcap ⊢
  obtain ⟨ck, hck⟩ : ∃ c, checkO os = c := ⟨_, rfl⟩
  rw [hck] at HCK
  have HHS := Lib.hid (fun W => rHas_B hg W)
  simp only [List.mem_cons, List.not_mem_nil, or_false] at hg
  have hflags : kindM kd = true ∧ lowM kd = true ∧ tryM kd = true ∧ opsM kd = false ∧ toldM kd = false ∧ codeM kd = false := by
    unfold kindM lowM tryM opsM toldM codeM
    simp only [decide_eq_true_eq, decide_eq_false_iff_not]
    omega
  have HE : Hid (mayM ⟨kd, fr, tt, g, nd, tr, lw, co, ti, tl, os⟩ = (fitP false fr 1 3 && (fitP true tt 1 3 && (fitP true g 1 1048576 && (fitP true nd 0 255 && (fitP true tr 0 1048576 && (fitP true lw 1 1048577 && (fitP false co 1 99 && (fitP false ti 0 9223372036854775807 && (fitP false (tn : Int) 0 8 && (fitP false (on : Int) 0 8 && decide (ck = 0)))))))))))) := Lib.hid (by
    obtain ⟨e1, e2, e3, e4, e5, e6⟩ := hflags
    unfold mayM
    simp only
    rw [htn, hon, hck, e1, e2, e3, e4, e5, e6]
    rfl)
  obtain ⟨rb, hrb⟩ : ∃ b, mayM ⟨kd, fr, tt, g, nd, tr, lw, co, ti, tl, os⟩ = b := ⟨_, rfl⟩
  rw [hrb] at HE ⊢
  have HCO := Lib.hid (show on ≤ 8 ∨ ck ≠ 0 from by
    rw [← hck, ← hon]
    by_cases h : os.length ≤ 8
    · exact .inl h
    · right; unfold checkO; rw [if_pos (by omega)]; decide)
  have HCN := Lib.hid (show on = 0 → ck = 0 from fun h => by
    rw [← hck]
    have : os = [] := List.length_eq_zero_iff.1 (by rw [hon]; exact h)
    subst this
    rfl)
  have hk1 : kd < 10 := by omega
  have hk2 : ¬ 10 < kd := by omega
  have H_t := Lib.hid (fun W => rhas_any ⟨#[116, 108]⟩ 116 W (by decide))
  rw [show hasL (⟨#[116, 108]⟩ : ByteArray).data.toList 116 = true from by decide] at H_t
  have H_l := Lib.hid (fun W => rhas_any ⟨#[116, 108]⟩ 108 W (by decide))
  rw [show hasL (⟨#[116, 108]⟩ : ByteArray).data.toList 108 = true from by decide] at H_l
  have H_c := Lib.hid (fun W => rhas_any ⟨#[116, 108]⟩ 99 W (by decide))
  rw [show hasL (⟨#[116, 108]⟩ : ByteArray).data.toList 99 = false from by decide] at H_c
  have H_k := Lib.hid (fun W => rhas_any ⟨#[116, 108]⟩ 107 W (by decide))
  rw [show hasL (⟨#[116, 108]⟩ : ByteArray).data.toList 107 = false from by decide] at H_k
  have H_o := Lib.hid (fun W => rhas_any ⟨#[116, 108]⟩ 111 W (by decide))
  rw [show hasL (⟨#[116, 108]⟩ : ByteArray).data.toList 111 = false from by decide] at H_o
  obtain ⟨fg, hfg⟩ : ∃ b, fitP true g 1 1048576 = b := ⟨_, rfl⟩
  have I_fg := Lib.hid (fun W => rin_any g 1 1048576 W)
  rw [hfg] at I_fg HE
  clear hfg
  obtain ⟨fn, hfn⟩ : ∃ b, fitP true nd 0 255 = b := ⟨_, rfl⟩
  have I_fn := Lib.hid (fun W => rin_any nd 0 255 W)
  rw [hfn] at I_fn HE
  clear hfn
  obtain ⟨ft, hft⟩ : ∃ b, fitP true tt 1 3 = b := ⟨_, rfl⟩
  have I_ft := Lib.hid (fun W => rin_any tt 1 3 W)
  rw [hft] at I_ft HE
  clear hft
  obtain ⟨fy, hfy⟩ : ∃ b, fitP true tr 0 1048576 = b := ⟨_, rfl⟩
  have I_fy := Lib.hid (fun W => rin_any tr 0 1048576 W)
  rw [hfy] at I_fy HE
  clear hfy
  obtain ⟨fl, hfl⟩ : ∃ b, fitP true lw 1 1048577 = b := ⟨_, rfl⟩
  have I_fl := Lib.hid (fun W => rin_any lw 1 1048577 W)
  rw [hfl] at I_fl HE
  clear hfl
  have HB := Lib.hid (below_new (w := w) (.cells #[.int .i64 kd, .int .i64 fr, .int .i64 tt, .int .i64 g, .int .i64 nd, .int .i64 tr, .int .i64 lw, .int .i64 co, .int .i64 ti, .slice tA tn tc, .slice oA on oc] 37))
  have hcap2 := hcap
  unfold maxLen at hcap2
  have ht8 : tn ≤ 9223372036854775807 := by omega
  have ho8 : on ≤ 9223372036854775807 := by omega
  clear ht ho hk hcap hcap2 htn hon hck hflags hrb hg
  go_enter Tryz.func78, Tryz.ntmps78
  go_wp2_with fail
  refine (HHS.out _).mono ?_
  rintro e w1 ⟨rfl, rfl⟩
  go_wp2_with fail
  refine (I_fg.out _).mono ?_
  rintro e w2 ⟨rfl, rfl⟩
  cases fg with
  | false =>
    go_wp2_with fail
    go_ret
    exact ⟨ret_bool (by rw [HE.out]; simp [fitP] <;> (intros; omega)), HB.out⟩
  | true =>
    go_wp2_with fail
    refine (I_fn.out _).mono ?_
    rintro e w2 ⟨rfl, rfl⟩
    cases fn with
    | false =>
      go_wp2_with fail
      go_ret
      exact ⟨ret_bool (by rw [HE.out]; simp [fitP] <;> (intros; omega)), HB.out⟩
    | true =>
      by_cases zfr : fr = 0
      case neg =>
        have qfr : (fr != 0) = true := by simpa using zfr
        go_wp2_with fail
        go_ret
        exact ⟨ret_bool (by rw [HE.out]; simp [fitP, zfr] <;> (intros; omega)), HB.out⟩
      subst zfr
      go_wp2_with fail
      refine (I_ft.out _).mono ?_
      rintro e w2 ⟨rfl, rfl⟩
      cases ft with
      | false =>
        go_wp2_with fail
        go_ret
        exact ⟨ret_bool (by rw [HE.out]; simp [fitP] <;> (intros; omega)), HB.out⟩
      | true =>
        go_wp2_with fail
        refine (H_t.out _).mono ?_
        rintro e w2 ⟨rfl, rfl⟩
        go_wp2_with fail
        refine (I_fy.out _).mono ?_
        rintro e w2 ⟨rfl, rfl⟩
        cases fy with
        | false =>
          go_wp2_with fail
          go_ret
          exact ⟨ret_bool (by rw [HE.out]; simp [fitP] <;> (intros; omega)), HB.out⟩
        | true =>
          go_wp2_with fail
          refine (H_t.out _).mono ?_
          rintro e w2 ⟨rfl, rfl⟩
          go_wp2_with fail
          refine (H_l.out _).mono ?_
          rintro e w2 ⟨rfl, rfl⟩
          go_wp2_with fail
          refine (I_fl.out _).mono ?_
          rintro e w2 ⟨rfl, rfl⟩
          cases fl with
          | false =>
            go_wp2_with fail
            go_ret
            exact ⟨ret_bool (by rw [HE.out]; simp [fitP] <;> (intros; omega)), HB.out⟩
          | true =>
            go_wp2_with fail
            refine (H_l.out _).mono ?_
            rintro e w2 ⟨rfl, rfl⟩
            go_wp2_with fail
            refine (H_c.out _).mono ?_
            rintro e w2 ⟨rfl, rfl⟩
            go_wp2_with fail
            refine (H_c.out _).mono ?_
            rintro e w2 ⟨rfl, rfl⟩
            by_cases zco : co = 0
            case neg =>
              have qco : (co != 0) = true := by simpa using zco
              go_wp2_with fail
              go_ret
              exact ⟨ret_bool (by rw [HE.out]; simp [fitP, zco] <;> (intros; omega)), HB.out⟩
            subst zco
            go_wp2_with fail
            refine (H_k.out _).mono ?_
            rintro e w2 ⟨rfl, rfl⟩
            go_wp2_with fail
            refine (H_k.out _).mono ?_
            rintro e w2 ⟨rfl, rfl⟩
            by_cases zti : ti = 0
            case neg =>
              have qti : (ti != 0) = true := by simpa using zti
              go_wp2_with fail
              go_ret
              exact ⟨ret_bool (by rw [HE.out]; simp [fitP, zti] <;> (intros; omega)), HB.out⟩
            subst zti
            by_cases ztn : tn = 0
            case neg =>
              have qtn : (0 : Int) < (tn : Int) := by omega
              have qtn3 : 0 < tn := by omega
              have qtn2 : ¬ (tn : Int) = 0 := by omega
              go_wp2_with fail
              go_ret
              exact ⟨ret_bool (by rw [HE.out]; simp [fitP, qtn2, ztn] <;> (intros; omega)), HB.out⟩
            subst ztn
            go_wp2_with fail
            refine (H_o.out _).mono ?_
            rintro e w2 ⟨rfl, rfl⟩
            go_wp2_with fail
            refine (H_o.out _).mono ?_
            rintro e w2 ⟨rfl, rfl⟩
            by_cases zon : on = 0
            · have zck : ck = 0 := HCN.out zon
              subst zon zck
              go_wp2_with fail
              go_ret
              exact ⟨ret_bool (by rw [HE.out]; simp [fitP] <;> (intros; omega)), HB.out⟩
            · have qon : (((on : Nat) : Int) == 0) = false := by simp; omega
              have qon2 : ¬ (on : Int) = 0 := by omega
              go_wp2_with fail
              go_ret
              exact ⟨ret_bool (by rw [HE.out]; simp [fitP, qon2, zon] <;> (intros; omega)), HB.out⟩
end Go.Proofs.YtabfbnpbgdlinaaGreatDoor

namespace Go.Proofs.YtabfbnpbgdlinaaGreatDoor
open Go.RowKit Go.Shelf

set_option maxRecDepth 100000 in
set_option maxHeartbeats 8000000 in
theorem rMay_C {w : World} {v : Value} {m : MsgV} (h : MsgIs w v m) (hg : m.kd ∈ ([3] : List Int)) (hti : m.ti ≤ 9223372036854775807) :
    Calls Tryz.prog 78 #[v] w fun e w' => e = .returned (.bool (mayM m)) ∧ Below w.heap.size w w' := by
  obtain ⟨tA, tc, oA, oc, rfl, ht, ho, hk⟩ := h
  obtain ⟨kd, fr, tt, g, nd, tr, lw, co, ti, tl, os⟩ := m
  simp only at ht ho hk hg hti ⊢
  have HTI := Lib.hid hti
  clear hti
  have HCK := Lib.hid (fun W (hW : Below w.heap.size w W) => rcheck_any (ho.below hW) hk)
  have hcap : tl.length ≤ tc ∧ tc ≤ maxLen ∧ os.length ≤ oc ∧ oc ≤ maxLen := by
    obtain ⟨_, _, e, h1, h2, _⟩ := ht
    obtain ⟨_, _, e', h3, h4, _⟩ := ho.form
    injection e with _ _ e
    injection e' with _ _ e'
    subst e e'
    exact ⟨h1, h2, h3, h4⟩
  obtain ⟨tn, htn⟩ : ∃ n, tl.length = n := ⟨_, rfl⟩
  obtain ⟨on, hon⟩ : ∃ n, os.length = n := ⟨_, rfl⟩
  rw [hon] at HCK
  rw [htn, hon] at hcap ⊢
  obtain ⟨ck, hck⟩ : ∃ c, checkO os = c := ⟨_, rfl⟩
  rw [hck] at HCK
  have HHS := Lib.hid (fun W => rHas_C hg W)
  simp only [List.mem_cons, List.not_mem_nil, or_false] at hg
  have hflags : kindM kd = true ∧ lowM kd = true ∧ tryM kd = false ∧ opsM kd = false ∧ toldM kd = false ∧ codeM kd = false := by
    unfold kindM lowM tryM opsM toldM codeM
    simp only [decide_eq_true_eq, decide_eq_false_iff_not]
    omega
  have HE : Hid (mayM ⟨kd, fr, tt, g, nd, tr, lw, co, ti, tl, os⟩ = (fitP false fr 1 3 && (fitP true tt 1 3 && (fitP true g 1 1048576 && (fitP true nd 0 255 && (fitP false tr 0 1048576 && (fitP true lw 1 1048577 && (fitP false co 1 99 && (fitP false ti 0 9223372036854775807 && (fitP false (tn : Int) 0 8 && (fitP false (on : Int) 0 8 && decide (ck = 0)))))))))))) := Lib.hid (by
    obtain ⟨e1, e2, e3, e4, e5, e6⟩ := hflags
    unfold mayM
    simp only
    rw [htn, hon, hck, e1, e2, e3, e4, e5, e6]
    rfl)
  obtain ⟨rb, hrb⟩ : ∃ b, mayM ⟨kd, fr, tt, g, nd, tr, lw, co, ti, tl, os⟩ = b := ⟨_, rfl⟩
  rw [hrb] at HE ⊢
  have HCO := Lib.hid (show on ≤ 8 ∨ ck ≠ 0 from by
    rw [← hck, ← hon]
    by_cases h : os.length ≤ 8
    · exact .inl h
    · right; unfold checkO; rw [if_pos (by omega)]; decide)
  have HCN := Lib.hid (show on = 0 → ck = 0 from fun h => by
    rw [← hck]
    have : os = [] := List.length_eq_zero_iff.1 (by rw [hon]; exact h)
    subst this
    rfl)
  have hk1 : kd < 10 := by omega
  have hk2 : ¬ 10 < kd := by omega
  have H_t := Lib.hid (fun W => rhas_any ⟨#[108]⟩ 116 W (by decide))
  rw [show hasL (⟨#[108]⟩ : ByteArray).data.toList 116 = false from by decide] at H_t
  have H_l := Lib.hid (fun W => rhas_any ⟨#[108]⟩ 108 W (by decide))
  rw [show hasL (⟨#[108]⟩ : ByteArray).data.toList 108 = true from by decide] at H_l
  have H_c := Lib.hid (fun W => rhas_any ⟨#[108]⟩ 99 W (by decide))
  rw [show hasL (⟨#[108]⟩ : ByteArray).data.toList 99 = false from by decide] at H_c
  have H_k := Lib.hid (fun W => rhas_any ⟨#[108]⟩ 107 W (by decide))
  rw [show hasL (⟨#[108]⟩ : ByteArray).data.toList 107 = false from by decide] at H_k
  have H_o := Lib.hid (fun W => rhas_any ⟨#[108]⟩ 111 W (by decide))
  rw [show hasL (⟨#[108]⟩ : ByteArray).data.toList 111 = false from by decide] at H_o
  obtain ⟨fg, hfg⟩ : ∃ b, fitP true g 1 1048576 = b := ⟨_, rfl⟩
  have I_fg := Lib.hid (fun W => rin_any g 1 1048576 W)
  rw [hfg] at I_fg HE
  clear hfg
  obtain ⟨fn, hfn⟩ : ∃ b, fitP true nd 0 255 = b := ⟨_, rfl⟩
  have I_fn := Lib.hid (fun W => rin_any nd 0 255 W)
  rw [hfn] at I_fn HE
  clear hfn
  obtain ⟨ft, hft⟩ : ∃ b, fitP true tt 1 3 = b := ⟨_, rfl⟩
  have I_ft := Lib.hid (fun W => rin_any tt 1 3 W)
  rw [hft] at I_ft HE
  clear hft
  obtain ⟨fl, hfl⟩ : ∃ b, fitP true lw 1 1048577 = b := ⟨_, rfl⟩
  have I_fl := Lib.hid (fun W => rin_any lw 1 1048577 W)
  rw [hfl] at I_fl HE
  clear hfl
  have HB := Lib.hid (below_new (w := w) (.cells #[.int .i64 kd, .int .i64 fr, .int .i64 tt, .int .i64 g, .int .i64 nd, .int .i64 tr, .int .i64 lw, .int .i64 co, .int .i64 ti, .slice tA tn tc, .slice oA on oc] 37))
  have hcap2 := hcap
  unfold maxLen at hcap2
  have ht8 : tn ≤ 9223372036854775807 := by omega
  have ho8 : on ≤ 9223372036854775807 := by omega
  clear ht ho hk hcap hcap2 htn hon hck hflags hrb hg
  go_enter Tryz.func78, Tryz.ntmps78
  go_wp2_with fail
  refine (HHS.out _).mono ?_
  rintro e w1 ⟨rfl, rfl⟩
  go_wp2_with fail
  refine (I_fg.out _).mono ?_
  rintro e w2 ⟨rfl, rfl⟩
  cases fg with
  | false =>
    go_wp2_with fail
    go_ret
    exact ⟨ret_bool (by rw [HE.out]; simp [fitP] <;> (intros; omega)), HB.out⟩
  | true =>
    go_wp2_with fail
    refine (I_fn.out _).mono ?_
    rintro e w2 ⟨rfl, rfl⟩
    cases fn with
    | false =>
      go_wp2_with fail
      go_ret
      exact ⟨ret_bool (by rw [HE.out]; simp [fitP] <;> (intros; omega)), HB.out⟩
    | true =>
      by_cases zfr : fr = 0
      case neg =>
        have qfr : (fr != 0) = true := by simpa using zfr
        go_wp2_with fail
        go_ret
        exact ⟨ret_bool (by rw [HE.out]; simp [fitP, zfr] <;> (intros; omega)), HB.out⟩
      subst zfr
      go_wp2_with fail
      refine (I_ft.out _).mono ?_
      rintro e w2 ⟨rfl, rfl⟩
      cases ft with
      | false =>
        go_wp2_with fail
        go_ret
        exact ⟨ret_bool (by rw [HE.out]; simp [fitP] <;> (intros; omega)), HB.out⟩
      | true =>
        go_wp2_with fail
        refine (H_t.out _).mono ?_
        rintro e w2 ⟨rfl, rfl⟩
        go_wp2_with fail
        refine (H_t.out _).mono ?_
        rintro e w2 ⟨rfl, rfl⟩
        by_cases ztr : tr = 0
        case neg =>
          have qtr : (tr != 0) = true := by simpa using ztr
          go_wp2_with fail
          go_ret
          exact ⟨ret_bool (by rw [HE.out]; simp [fitP, ztr] <;> (intros; omega)), HB.out⟩
        subst ztr
        go_wp2_with fail
        refine (H_l.out _).mono ?_
        rintro e w2 ⟨rfl, rfl⟩
        go_wp2_with fail
        refine (I_fl.out _).mono ?_
        rintro e w2 ⟨rfl, rfl⟩
        cases fl with
        | false =>
          go_wp2_with fail
          go_ret
          exact ⟨ret_bool (by rw [HE.out]; simp [fitP] <;> (intros; omega)), HB.out⟩
        | true =>
          go_wp2_with fail
          refine (H_l.out _).mono ?_
          rintro e w2 ⟨rfl, rfl⟩
          go_wp2_with fail
          refine (H_c.out _).mono ?_
          rintro e w2 ⟨rfl, rfl⟩
          go_wp2_with fail
          refine (H_c.out _).mono ?_
          rintro e w2 ⟨rfl, rfl⟩
          by_cases zco : co = 0
          case neg =>
            have qco : (co != 0) = true := by simpa using zco
            go_wp2_with fail
            go_ret
            exact ⟨ret_bool (by rw [HE.out]; simp [fitP, zco] <;> (intros; omega)), HB.out⟩
          subst zco
          go_wp2_with fail
          refine (H_k.out _).mono ?_
          rintro e w2 ⟨rfl, rfl⟩
          go_wp2_with fail
          refine (H_k.out _).mono ?_
          rintro e w2 ⟨rfl, rfl⟩
          by_cases zti : ti = 0
          case neg =>
            have qti : (ti != 0) = true := by simpa using zti
            go_wp2_with fail
            go_ret
            exact ⟨ret_bool (by rw [HE.out]; simp [fitP, zti] <;> (intros; omega)), HB.out⟩
          subst zti
          by_cases ztn : tn = 0
          case neg =>
            have qtn : (0 : Int) < (tn : Int) := by omega
            have qtn3 : 0 < tn := by omega
            have qtn2 : ¬ (tn : Int) = 0 := by omega
            go_wp2_with fail
            go_ret
            exact ⟨ret_bool (by rw [HE.out]; simp [fitP, qtn2, ztn] <;> (intros; omega)), HB.out⟩
          subst ztn
          go_wp2_with fail
          refine (H_o.out _).mono ?_
          rintro e w2 ⟨rfl, rfl⟩
          go_wp2_with fail
          refine (H_o.out _).mono ?_
          rintro e w2 ⟨rfl, rfl⟩
          by_cases zon : on = 0
          · have zck : ck = 0 := HCN.out zon
            subst zon zck
            go_wp2_with fail
            go_ret
            exact ⟨ret_bool (by rw [HE.out]; simp [fitP] <;> (intros; omega)), HB.out⟩
          · have qon : (((on : Nat) : Int) == 0) = false := by simp; omega
            have qon2 : ¬ (on : Int) = 0 := by omega
            go_wp2_with fail
            go_ret
            exact ⟨ret_bool (by rw [HE.out]; simp [fitP, qon2, zon] <;> (intros; omega)), HB.out⟩
end Go.Proofs.YtabfbnpbgdlinaaGreatDoor

namespace Go.Proofs.YtabfbnpbgdlinaaGreatDoor
open Go.RowKit Go.Shelf

set_option maxRecDepth 100000 in
set_option maxHeartbeats 8000000 in
theorem rMay_D {w : World} {v : Value} {m : MsgV} (h : MsgIs w v m) (hg : m.kd ∈ ([11] : List Int)) (hti : m.ti ≤ 9223372036854775807) :
    Calls Tryz.prog 78 #[v] w fun e w' => e = .returned (.bool (mayM m)) ∧ Below w.heap.size w w' := by
  obtain ⟨tA, tc, oA, oc, rfl, ht, ho, hk⟩ := h
  obtain ⟨kd, fr, tt, g, nd, tr, lw, co, ti, tl, os⟩ := m
  simp only at ht ho hk hg hti ⊢
  have HTI := Lib.hid hti
  clear hti
  have HCK := Lib.hid (fun W (hW : Below w.heap.size w W) => rcheck_any (ho.below hW) hk)
  have hcap : tl.length ≤ tc ∧ tc ≤ maxLen ∧ os.length ≤ oc ∧ oc ≤ maxLen := by
    obtain ⟨_, _, e, h1, h2, _⟩ := ht
    obtain ⟨_, _, e', h3, h4, _⟩ := ho.form
    injection e with _ _ e
    injection e' with _ _ e'
    subst e e'
    exact ⟨h1, h2, h3, h4⟩
  obtain ⟨tn, htn⟩ : ∃ n, tl.length = n := ⟨_, rfl⟩
  obtain ⟨on, hon⟩ : ∃ n, os.length = n := ⟨_, rfl⟩
  rw [hon] at HCK
  rw [htn, hon] at hcap ⊢
  obtain ⟨ck, hck⟩ : ∃ c, checkO os = c := ⟨_, rfl⟩
  rw [hck] at HCK
  have HHS := Lib.hid (fun W => rHas_D hg W)
  simp only [List.mem_cons, List.not_mem_nil, or_false] at hg
  have hflags : kindM kd = true ∧ lowM kd = false ∧ tryM kd = true ∧ opsM kd = false ∧ toldM kd = true ∧ codeM kd = false := by
    unfold kindM lowM tryM opsM toldM codeM
    simp only [decide_eq_true_eq, decide_eq_false_iff_not]
    omega
  have HE : Hid (mayM ⟨kd, fr, tt, g, nd, tr, lw, co, ti, tl, os⟩ = (fitP true fr 1 3 && (fitP false tt 1 3 && (fitP true g 1 1048576 && (fitP true nd 0 255 && (fitP true tr 0 1048576 && (fitP false lw 1 1048577 && (fitP false co 1 99 && (fitP true ti 0 9223372036854775807 && (fitP true (tn : Int) 0 8 && (fitP false (on : Int) 0 8 && decide (ck = 0)))))))))))) := Lib.hid (by
    obtain ⟨e1, e2, e3, e4, e5, e6⟩ := hflags
    unfold mayM
    simp only
    rw [htn, hon, hck, e1, e2, e3, e4, e5, e6]
    rfl)
  obtain ⟨rb, hrb⟩ : ∃ b, mayM ⟨kd, fr, tt, g, nd, tr, lw, co, ti, tl, os⟩ = b := ⟨_, rfl⟩
  rw [hrb] at HE ⊢
  have HCO := Lib.hid (show on ≤ 8 ∨ ck ≠ 0 from by
    rw [← hck, ← hon]
    by_cases h : os.length ≤ 8
    · exact .inl h
    · right; unfold checkO; rw [if_pos (by omega)]; decide)
  have HCN := Lib.hid (show on = 0 → ck = 0 from fun h => by
    rw [← hck]
    have : os = [] := List.length_eq_zero_iff.1 (by rw [hon]; exact h)
    subst this
    rfl)
  have hk1 : ¬ kd < 10 := by omega
  have hk2 : 10 < kd := by omega
  have H_t := Lib.hid (fun W => rhas_any ⟨#[116, 107]⟩ 116 W (by decide))
  rw [show hasL (⟨#[116, 107]⟩ : ByteArray).data.toList 116 = true from by decide] at H_t
  have H_l := Lib.hid (fun W => rhas_any ⟨#[116, 107]⟩ 108 W (by decide))
  rw [show hasL (⟨#[116, 107]⟩ : ByteArray).data.toList 108 = false from by decide] at H_l
  have H_c := Lib.hid (fun W => rhas_any ⟨#[116, 107]⟩ 99 W (by decide))
  rw [show hasL (⟨#[116, 107]⟩ : ByteArray).data.toList 99 = false from by decide] at H_c
  have H_k := Lib.hid (fun W => rhas_any ⟨#[116, 107]⟩ 107 W (by decide))
  rw [show hasL (⟨#[116, 107]⟩ : ByteArray).data.toList 107 = true from by decide] at H_k
  have H_o := Lib.hid (fun W => rhas_any ⟨#[116, 107]⟩ 111 W (by decide))
  rw [show hasL (⟨#[116, 107]⟩ : ByteArray).data.toList 111 = false from by decide] at H_o
  obtain ⟨fg, hfg⟩ : ∃ b, fitP true g 1 1048576 = b := ⟨_, rfl⟩
  have I_fg := Lib.hid (fun W => rin_any g 1 1048576 W)
  rw [hfg] at I_fg HE
  clear hfg
  obtain ⟨fn, hfn⟩ : ∃ b, fitP true nd 0 255 = b := ⟨_, rfl⟩
  have I_fn := Lib.hid (fun W => rin_any nd 0 255 W)
  rw [hfn] at I_fn HE
  clear hfn
  obtain ⟨ff, hff⟩ : ∃ b, fitP true fr 1 3 = b := ⟨_, rfl⟩
  have I_ff := Lib.hid (fun W => rin_any fr 1 3 W)
  rw [hff] at I_ff HE
  clear hff
  obtain ⟨fy, hfy⟩ : ∃ b, fitP true tr 0 1048576 = b := ⟨_, rfl⟩
  have I_fy := Lib.hid (fun W => rin_any tr 0 1048576 W)
  rw [hfy] at I_fy HE
  clear hfy
  have HB := Lib.hid (below_new (w := w) (.cells #[.int .i64 kd, .int .i64 fr, .int .i64 tt, .int .i64 g, .int .i64 nd, .int .i64 tr, .int .i64 lw, .int .i64 co, .int .i64 ti, .slice tA tn tc, .slice oA on oc] 37))
  have hcap2 := hcap
  unfold maxLen at hcap2
  have ht8 : tn ≤ 9223372036854775807 := by omega
  have ho8 : on ≤ 9223372036854775807 := by omega
  clear ht ho hk hcap hcap2 htn hon hck hflags hrb hg
  go_enter Tryz.func78, Tryz.ntmps78
  go_wp2_with fail
  refine (HHS.out _).mono ?_
  rintro e w1 ⟨rfl, rfl⟩
  go_wp2_with fail
  refine (I_fg.out _).mono ?_
  rintro e w2 ⟨rfl, rfl⟩
  cases fg with
  | false =>
    go_wp2_with fail
    go_ret
    exact ⟨ret_bool (by rw [HE.out]; simp [fitP] <;> (intros; omega)), HB.out⟩
  | true =>
    go_wp2_with fail
    refine (I_fn.out _).mono ?_
    rintro e w2 ⟨rfl, rfl⟩
    cases fn with
    | false =>
      go_wp2_with fail
      go_ret
      exact ⟨ret_bool (by rw [HE.out]; simp [fitP] <;> (intros; omega)), HB.out⟩
    | true =>
      by_cases ztt : tt = 0
      case neg =>
        have qtt : (tt != 0) = true := by simpa using ztt
        go_wp2_with fail
        go_ret
        exact ⟨ret_bool (by rw [HE.out]; simp [fitP, ztt] <;> (intros; omega)), HB.out⟩
      subst ztt
      go_wp2_with fail
      refine (I_ff.out _).mono ?_
      rintro e w2 ⟨rfl, rfl⟩
      cases ff with
      | false =>
        go_wp2_with fail
        go_ret
        exact ⟨ret_bool (by rw [HE.out]; simp [fitP] <;> (intros; omega)), HB.out⟩
      | true =>
        go_wp2_with fail
        refine (H_t.out _).mono ?_
        rintro e w2 ⟨rfl, rfl⟩
        go_wp2_with fail
        refine (I_fy.out _).mono ?_
        rintro e w2 ⟨rfl, rfl⟩
        cases fy with
        | false =>
          go_wp2_with fail
          go_ret
          exact ⟨ret_bool (by rw [HE.out]; simp [fitP] <;> (intros; omega)), HB.out⟩
        | true =>
          go_wp2_with fail
          refine (H_t.out _).mono ?_
          rintro e w2 ⟨rfl, rfl⟩
          go_wp2_with fail
          refine (H_l.out _).mono ?_
          rintro e w2 ⟨rfl, rfl⟩
          go_wp2_with fail
          refine (H_l.out _).mono ?_
          rintro e w2 ⟨rfl, rfl⟩
          by_cases zlw : lw = 0
          case neg =>
            have qlw : (lw != 0) = true := by simpa using zlw
            go_wp2_with fail
            go_ret
            exact ⟨ret_bool (by rw [HE.out]; simp [fitP, zlw] <;> (intros; omega)), HB.out⟩
          subst zlw
          go_wp2_with fail
          refine (H_c.out _).mono ?_
          rintro e w2 ⟨rfl, rfl⟩
          go_wp2_with fail
          refine (H_c.out _).mono ?_
          rintro e w2 ⟨rfl, rfl⟩
          by_cases zco : co = 0
          case neg =>
            have qco : (co != 0) = true := by simpa using zco
            go_wp2_with fail
            go_ret
            exact ⟨ret_bool (by rw [HE.out]; simp [fitP, zco] <;> (intros; omega)), HB.out⟩
          subst zco
          go_wp2_with fail
          refine (H_k.out _).mono ?_
          rintro e w2 ⟨rfl, rfl⟩
          by_cases zti : 0 ≤ ti
          case neg =>
            go_wp2_with fail
            go_ret
            exact ⟨ret_bool (by rw [HE.out]; simp [fitP, zti] <;> (intros; omega)), HB.out⟩
          have qti : ¬ ti < 0 := by omega
          by_cases ztn : tn ≤ 8
          case neg =>
            have qtn : (8 : Int) < (tn : Int) := by omega
            have qtn2 : ¬ (tn : Int) ≤ 8 := by omega
            go_wp2_with fail
            go_ret
            exact ⟨ret_bool (by rw [HE.out]; simp [fitP, qtn2] <;> (intros; omega)), HB.out⟩
          have qtn : ¬ (8 : Int) < (tn : Int) := by omega
          go_wp2_with fail
          refine (H_k.out _).mono ?_
          rintro e w2 ⟨rfl, rfl⟩
          go_wp2_with fail
          refine (H_o.out _).mono ?_
          rintro e w2 ⟨rfl, rfl⟩
          go_wp2_with fail
          refine (H_o.out _).mono ?_
          rintro e w2 ⟨rfl, rfl⟩
          by_cases zon : on = 0
          · have zck : ck = 0 := HCN.out zon
            subst zon zck
            go_wp2_with fail
            go_ret
            exact ⟨ret_bool (by rw [HE.out]; simp [fitP, zti, ztn, HTI.out] <;> (intros; omega)), HB.out⟩
          · have qon : (((on : Nat) : Int) == 0) = false := by simp; omega
            have qon2 : ¬ (on : Int) = 0 := by omega
            go_wp2_with fail
            go_ret
            exact ⟨ret_bool (by rw [HE.out]; simp [fitP, qon2, zon] <;> (intros; omega)), HB.out⟩
end Go.Proofs.YtabfbnpbgdlinaaGreatDoor

namespace Go.Proofs.YtabfbnpbgdlinaaGreatDoor
open Go.RowKit Go.Shelf

set_option maxRecDepth 100000 in
set_option maxHeartbeats 8000000 in
theorem rMay_E {w : World} {v : Value} {m : MsgV} (h : MsgIs w v m) (hg : m.kd ∈ ([12, 14] : List Int)) (hti : m.ti ≤ 9223372036854775807) :
    Calls Tryz.prog 78 #[v] w fun e w' => e = .returned (.bool (mayM m)) ∧ Below w.heap.size w w' := by
  obtain ⟨tA, tc, oA, oc, rfl, ht, ho, hk⟩ := h
  obtain ⟨kd, fr, tt, g, nd, tr, lw, co, ti, tl, os⟩ := m
  simp only at ht ho hk hg hti ⊢
  have HTI := Lib.hid hti
  clear hti
  have HCK := Lib.hid (fun W (hW : Below w.heap.size w W) => rcheck_any (ho.below hW) hk)
  have hcap : tl.length ≤ tc ∧ tc ≤ maxLen ∧ os.length ≤ oc ∧ oc ≤ maxLen := by
    obtain ⟨_, _, e, h1, h2, _⟩ := ht
    obtain ⟨_, _, e', h3, h4, _⟩ := ho.form
    injection e with _ _ e
    injection e' with _ _ e'
    subst e e'
    exact ⟨h1, h2, h3, h4⟩
  obtain ⟨tn, htn⟩ : ∃ n, tl.length = n := ⟨_, rfl⟩
  obtain ⟨on, hon⟩ : ∃ n, os.length = n := ⟨_, rfl⟩
  rw [hon] at HCK
  rw [htn, hon] at hcap ⊢
  obtain ⟨ck, hck⟩ : ∃ c, checkO os = c := ⟨_, rfl⟩
  rw [hck] at HCK
  have HHS := Lib.hid (fun W => rHas_E hg W)
  simp only [List.mem_cons, List.not_mem_nil, or_false] at hg
  have hflags : kindM kd = true ∧ lowM kd = false ∧ tryM kd = true ∧ opsM kd = false ∧ toldM kd = false ∧ codeM kd = true := by
    unfold kindM lowM tryM opsM toldM codeM
    simp only [decide_eq_true_eq, decide_eq_false_iff_not]
    omega
  have HE : Hid (mayM ⟨kd, fr, tt, g, nd, tr, lw, co, ti, tl, os⟩ = (fitP true fr 1 3 && (fitP false tt 1 3 && (fitP true g 1 1048576 && (fitP true nd 0 255 && (fitP true tr 0 1048576 && (fitP false lw 1 1048577 && (fitP true co 1 99 && (fitP false ti 0 9223372036854775807 && (fitP false (tn : Int) 0 8 && (fitP false (on : Int) 0 8 && decide (ck = 0)))))))))))) := Lib.hid (by
    obtain ⟨e1, e2, e3, e4, e5, e6⟩ := hflags
    unfold mayM
    simp only
    rw [htn, hon, hck, e1, e2, e3, e4, e5, e6]
    rfl)
  obtain ⟨rb, hrb⟩ : ∃ b, mayM ⟨kd, fr, tt, g, nd, tr, lw, co, ti, tl, os⟩ = b := ⟨_, rfl⟩
  rw [hrb] at HE ⊢
  have HCO := Lib.hid (show on ≤ 8 ∨ ck ≠ 0 from by
    rw [← hck, ← hon]
    by_cases h : os.length ≤ 8
    · exact .inl h
    · right; unfold checkO; rw [if_pos (by omega)]; decide)
  have HCN := Lib.hid (show on = 0 → ck = 0 from fun h => by
    rw [← hck]
    have : os = [] := List.length_eq_zero_iff.1 (by rw [hon]; exact h)
    subst this
    rfl)
  have hk1 : ¬ kd < 10 := by omega
  have hk2 : 10 < kd := by omega
  have H_t := Lib.hid (fun W => rhas_any ⟨#[116, 99]⟩ 116 W (by decide))
  rw [show hasL (⟨#[116, 99]⟩ : ByteArray).data.toList 116 = true from by decide] at H_t
  have H_l := Lib.hid (fun W => rhas_any ⟨#[116, 99]⟩ 108 W (by decide))
  rw [show hasL (⟨#[116, 99]⟩ : ByteArray).data.toList 108 = false from by decide] at H_l
  have H_c := Lib.hid (fun W => rhas_any ⟨#[116, 99]⟩ 99 W (by decide))
  rw [show hasL (⟨#[116, 99]⟩ : ByteArray).data.toList 99 = true from by decide] at H_c
  have H_k := Lib.hid (fun W => rhas_any ⟨#[116, 99]⟩ 107 W (by decide))
  rw [show hasL (⟨#[116, 99]⟩ : ByteArray).data.toList 107 = false from by decide] at H_k
  have H_o := Lib.hid (fun W => rhas_any ⟨#[116, 99]⟩ 111 W (by decide))
  rw [show hasL (⟨#[116, 99]⟩ : ByteArray).data.toList 111 = false from by decide] at H_o
  obtain ⟨fg, hfg⟩ : ∃ b, fitP true g 1 1048576 = b := ⟨_, rfl⟩
  have I_fg := Lib.hid (fun W => rin_any g 1 1048576 W)
  rw [hfg] at I_fg HE
  clear hfg
  obtain ⟨fn, hfn⟩ : ∃ b, fitP true nd 0 255 = b := ⟨_, rfl⟩
  have I_fn := Lib.hid (fun W => rin_any nd 0 255 W)
  rw [hfn] at I_fn HE
  clear hfn
  obtain ⟨ff, hff⟩ : ∃ b, fitP true fr 1 3 = b := ⟨_, rfl⟩
  have I_ff := Lib.hid (fun W => rin_any fr 1 3 W)
  rw [hff] at I_ff HE
  clear hff
  obtain ⟨fy, hfy⟩ : ∃ b, fitP true tr 0 1048576 = b := ⟨_, rfl⟩
  have I_fy := Lib.hid (fun W => rin_any tr 0 1048576 W)
  rw [hfy] at I_fy HE
  clear hfy
  obtain ⟨fc, hfc⟩ : ∃ b, fitP true co 1 99 = b := ⟨_, rfl⟩
  have I_fc := Lib.hid (fun W => rin_any co 1 99 W)
  rw [hfc] at I_fc HE
  clear hfc
  have HB := Lib.hid (below_new (w := w) (.cells #[.int .i64 kd, .int .i64 fr, .int .i64 tt, .int .i64 g, .int .i64 nd, .int .i64 tr, .int .i64 lw, .int .i64 co, .int .i64 ti, .slice tA tn tc, .slice oA on oc] 37))
  have hcap2 := hcap
  unfold maxLen at hcap2
  have ht8 : tn ≤ 9223372036854775807 := by omega
  have ho8 : on ≤ 9223372036854775807 := by omega
  clear ht ho hk hcap hcap2 htn hon hck hflags hrb hg
  go_enter Tryz.func78, Tryz.ntmps78
  go_wp2_with fail
  refine (HHS.out _).mono ?_
  rintro e w1 ⟨rfl, rfl⟩
  go_wp2_with fail
  refine (I_fg.out _).mono ?_
  rintro e w2 ⟨rfl, rfl⟩
  cases fg with
  | false =>
    go_wp2_with fail
    go_ret
    exact ⟨ret_bool (by rw [HE.out]; simp [fitP] <;> (intros; omega)), HB.out⟩
  | true =>
    go_wp2_with fail
    refine (I_fn.out _).mono ?_
    rintro e w2 ⟨rfl, rfl⟩
    cases fn with
    | false =>
      go_wp2_with fail
      go_ret
      exact ⟨ret_bool (by rw [HE.out]; simp [fitP] <;> (intros; omega)), HB.out⟩
    | true =>
      by_cases ztt : tt = 0
      case neg =>
        have qtt : (tt != 0) = true := by simpa using ztt
        go_wp2_with fail
        go_ret
        exact ⟨ret_bool (by rw [HE.out]; simp [fitP, ztt] <;> (intros; omega)), HB.out⟩
      subst ztt
      go_wp2_with fail
      refine (I_ff.out _).mono ?_
      rintro e w2 ⟨rfl, rfl⟩
      cases ff with
      | false =>
        go_wp2_with fail
        go_ret
        exact ⟨ret_bool (by rw [HE.out]; simp [fitP] <;> (intros; omega)), HB.out⟩
      | true =>
        go_wp2_with fail
        refine (H_t.out _).mono ?_
        rintro e w2 ⟨rfl, rfl⟩
        go_wp2_with fail
        refine (I_fy.out _).mono ?_
        rintro e w2 ⟨rfl, rfl⟩
        cases fy with
        | false =>
          go_wp2_with fail
          go_ret
          exact ⟨ret_bool (by rw [HE.out]; simp [fitP] <;> (intros; omega)), HB.out⟩
        | true =>
          go_wp2_with fail
          refine (H_t.out _).mono ?_
          rintro e w2 ⟨rfl, rfl⟩
          go_wp2_with fail
          refine (H_l.out _).mono ?_
          rintro e w2 ⟨rfl, rfl⟩
          go_wp2_with fail
          refine (H_l.out _).mono ?_
          rintro e w2 ⟨rfl, rfl⟩
          by_cases zlw : lw = 0
          case neg =>
            have qlw : (lw != 0) = true := by simpa using zlw
            go_wp2_with fail
            go_ret
            exact ⟨ret_bool (by rw [HE.out]; simp [fitP, zlw] <;> (intros; omega)), HB.out⟩
          subst zlw
          go_wp2_with fail
          refine (H_c.out _).mono ?_
          rintro e w2 ⟨rfl, rfl⟩
          go_wp2_with fail
          refine (I_fc.out _).mono ?_
          rintro e w2 ⟨rfl, rfl⟩
          cases fc with
          | false =>
            go_wp2_with fail
            go_ret
            exact ⟨ret_bool (by rw [HE.out]; simp [fitP] <;> (intros; omega)), HB.out⟩
          | true =>
            go_wp2_with fail
            refine (H_c.out _).mono ?_
            rintro e w2 ⟨rfl, rfl⟩
            go_wp2_with fail
            refine (H_k.out _).mono ?_
            rintro e w2 ⟨rfl, rfl⟩
            go_wp2_with fail
            refine (H_k.out _).mono ?_
            rintro e w2 ⟨rfl, rfl⟩
            by_cases zti : ti = 0
            case neg =>
              have qti : (ti != 0) = true := by simpa using zti
              go_wp2_with fail
              go_ret
              exact ⟨ret_bool (by rw [HE.out]; simp [fitP, zti] <;> (intros; omega)), HB.out⟩
            subst zti
            by_cases ztn : tn = 0
            case neg =>
              have qtn : (0 : Int) < (tn : Int) := by omega
              have qtn3 : 0 < tn := by omega
              have qtn2 : ¬ (tn : Int) = 0 := by omega
              go_wp2_with fail
              go_ret
              exact ⟨ret_bool (by rw [HE.out]; simp [fitP, qtn2, ztn] <;> (intros; omega)), HB.out⟩
            subst ztn
            go_wp2_with fail
            refine (H_o.out _).mono ?_
            rintro e w2 ⟨rfl, rfl⟩
            go_wp2_with fail
            refine (H_o.out _).mono ?_
            rintro e w2 ⟨rfl, rfl⟩
            by_cases zon : on = 0
            · have zck : ck = 0 := HCN.out zon
              subst zon zck
              go_wp2_with fail
              go_ret
              exact ⟨ret_bool (by rw [HE.out]; simp [fitP] <;> (intros; omega)), HB.out⟩
            · have qon : (((on : Nat) : Int) == 0) = false := by simp; omega
              have qon2 : ¬ (on : Int) = 0 := by omega
              go_wp2_with fail
              go_ret
              exact ⟨ret_bool (by rw [HE.out]; simp [fitP, qon2, zon] <;> (intros; omega)), HB.out⟩
end Go.Proofs.YtabfbnpbgdlinaaGreatDoor

namespace Go.Proofs.YtabfbnpbgdlinaaGreatDoor
open Go.RowKit Go.Shelf

set_option maxRecDepth 100000 in
set_option maxHeartbeats 8000000 in
theorem rMay_F {w : World} {v : Value} {m : MsgV} (h : MsgIs w v m) (hg : m.kd ∈ ([13, 15, 16] : List Int)) (hti : m.ti ≤ 9223372036854775807) :
    Calls Tryz.prog 78 #[v] w fun e w' => e = .returned (.bool (mayM m)) ∧ Below w.heap.size w w' := by
  obtain ⟨tA, tc, oA, oc, rfl, ht, ho, hk⟩ := h
  obtain ⟨kd, fr, tt, g, nd, tr, lw, co, ti, tl, os⟩ := m
  simp only at ht ho hk hg hti ⊢
  have HTI := Lib.hid hti
  clear hti
  have HCK := Lib.hid (fun W (hW : Below w.heap.size w W) => rcheck_any (ho.below hW) hk)
  have hcap : tl.length ≤ tc ∧ tc ≤ maxLen ∧ os.length ≤ oc ∧ oc ≤ maxLen := by
    obtain ⟨_, _, e, h1, h2, _⟩ := ht
    obtain ⟨_, _, e', h3, h4, _⟩ := ho.form
    injection e with _ _ e
    injection e' with _ _ e'
    subst e e'
    exact ⟨h1, h2, h3, h4⟩
  obtain ⟨tn, htn⟩ : ∃ n, tl.length = n := ⟨_, rfl⟩
  obtain ⟨on, hon⟩ : ∃ n, os.length = n := ⟨_, rfl⟩
  rw [hon] at HCK
  rw [htn, hon] at hcap ⊢
  obtain ⟨ck, hck⟩ : ∃ c, checkO os = c := ⟨_, rfl⟩
  rw [hck] at HCK
  have HHS := Lib.hid (fun W => rHas_F hg W)
  simp only [List.mem_cons, List.not_mem_nil, or_false] at hg
  have hflags : kindM kd = true ∧ lowM kd = false ∧ tryM kd = false ∧ opsM kd = false ∧ toldM kd = false ∧ codeM kd = false := by
    unfold kindM lowM tryM opsM toldM codeM
    simp only [decide_eq_true_eq, decide_eq_false_iff_not]
    omega
  have HE : Hid (mayM ⟨kd, fr, tt, g, nd, tr, lw, co, ti, tl, os⟩ = (fitP true fr 1 3 && (fitP false tt 1 3 && (fitP true g 1 1048576 && (fitP true nd 0 255 && (fitP false tr 0 1048576 && (fitP false lw 1 1048577 && (fitP false co 1 99 && (fitP false ti 0 9223372036854775807 && (fitP false (tn : Int) 0 8 && (fitP false (on : Int) 0 8 && decide (ck = 0)))))))))))) := Lib.hid (by
    obtain ⟨e1, e2, e3, e4, e5, e6⟩ := hflags
    unfold mayM
    simp only
    rw [htn, hon, hck, e1, e2, e3, e4, e5, e6]
    rfl)
  obtain ⟨rb, hrb⟩ : ∃ b, mayM ⟨kd, fr, tt, g, nd, tr, lw, co, ti, tl, os⟩ = b := ⟨_, rfl⟩
  rw [hrb] at HE ⊢
  have HCO := Lib.hid (show on ≤ 8 ∨ ck ≠ 0 from by
    rw [← hck, ← hon]
    by_cases h : os.length ≤ 8
    · exact .inl h
    · right; unfold checkO; rw [if_pos (by omega)]; decide)
  have HCN := Lib.hid (show on = 0 → ck = 0 from fun h => by
    rw [← hck]
    have : os = [] := List.length_eq_zero_iff.1 (by rw [hon]; exact h)
    subst this
    rfl)
  have hk1 : ¬ kd < 10 := by omega
  have hk2 : 10 < kd := by omega
  have H_t := Lib.hid (fun W => rhas_any ⟨#[]⟩ 116 W (by decide))
  rw [show hasL (⟨#[]⟩ : ByteArray).data.toList 116 = false from by decide] at H_t
  have H_l := Lib.hid (fun W => rhas_any ⟨#[]⟩ 108 W (by decide))
  rw [show hasL (⟨#[]⟩ : ByteArray).data.toList 108 = false from by decide] at H_l
  have H_c := Lib.hid (fun W => rhas_any ⟨#[]⟩ 99 W (by decide))
  rw [show hasL (⟨#[]⟩ : ByteArray).data.toList 99 = false from by decide] at H_c
  have H_k := Lib.hid (fun W => rhas_any ⟨#[]⟩ 107 W (by decide))
  rw [show hasL (⟨#[]⟩ : ByteArray).data.toList 107 = false from by decide] at H_k
  have H_o := Lib.hid (fun W => rhas_any ⟨#[]⟩ 111 W (by decide))
  rw [show hasL (⟨#[]⟩ : ByteArray).data.toList 111 = false from by decide] at H_o
  obtain ⟨fg, hfg⟩ : ∃ b, fitP true g 1 1048576 = b := ⟨_, rfl⟩
  have I_fg := Lib.hid (fun W => rin_any g 1 1048576 W)
  rw [hfg] at I_fg HE
  clear hfg
  obtain ⟨fn, hfn⟩ : ∃ b, fitP true nd 0 255 = b := ⟨_, rfl⟩
  have I_fn := Lib.hid (fun W => rin_any nd 0 255 W)
  rw [hfn] at I_fn HE
  clear hfn
  obtain ⟨ff, hff⟩ : ∃ b, fitP true fr 1 3 = b := ⟨_, rfl⟩
  have I_ff := Lib.hid (fun W => rin_any fr 1 3 W)
  rw [hff] at I_ff HE
  clear hff
  have HB := Lib.hid (below_new (w := w) (.cells #[.int .i64 kd, .int .i64 fr, .int .i64 tt, .int .i64 g, .int .i64 nd, .int .i64 tr, .int .i64 lw, .int .i64 co, .int .i64 ti, .slice tA tn tc, .slice oA on oc] 37))
  have hcap2 := hcap
  unfold maxLen at hcap2
  have ht8 : tn ≤ 9223372036854775807 := by omega
  have ho8 : on ≤ 9223372036854775807 := by omega
  clear ht ho hk hcap hcap2 htn hon hck hflags hrb hg
  go_enter Tryz.func78, Tryz.ntmps78
  go_wp2_with fail
  refine (HHS.out _).mono ?_
  rintro e w1 ⟨rfl, rfl⟩
  go_wp2_with fail
  refine (I_fg.out _).mono ?_
  rintro e w2 ⟨rfl, rfl⟩
  cases fg with
  | false =>
    go_wp2_with fail
    go_ret
    exact ⟨ret_bool (by rw [HE.out]; simp [fitP] <;> (intros; omega)), HB.out⟩
  | true =>
    go_wp2_with fail
    refine (I_fn.out _).mono ?_
    rintro e w2 ⟨rfl, rfl⟩
    cases fn with
    | false =>
      go_wp2_with fail
      go_ret
      exact ⟨ret_bool (by rw [HE.out]; simp [fitP] <;> (intros; omega)), HB.out⟩
    | true =>
      by_cases ztt : tt = 0
      case neg =>
        have qtt : (tt != 0) = true := by simpa using ztt
        go_wp2_with fail
        go_ret
        exact ⟨ret_bool (by rw [HE.out]; simp [fitP, ztt] <;> (intros; omega)), HB.out⟩
      subst ztt
      go_wp2_with fail
      refine (I_ff.out _).mono ?_
      rintro e w2 ⟨rfl, rfl⟩
      cases ff with
      | false =>
        go_wp2_with fail
        go_ret
        exact ⟨ret_bool (by rw [HE.out]; simp [fitP] <;> (intros; omega)), HB.out⟩
      | true =>
        go_wp2_with fail
        refine (H_t.out _).mono ?_
        rintro e w2 ⟨rfl, rfl⟩
        go_wp2_with fail
        refine (H_t.out _).mono ?_
        rintro e w2 ⟨rfl, rfl⟩
        by_cases ztr : tr = 0
        case neg =>
          have qtr : (tr != 0) = true := by simpa using ztr
          go_wp2_with fail
          go_ret
          exact ⟨ret_bool (by rw [HE.out]; simp [fitP, ztr] <;> (intros; omega)), HB.out⟩
        subst ztr
        go_wp2_with fail
        refine (H_l.out _).mono ?_
        rintro e w2 ⟨rfl, rfl⟩
        go_wp2_with fail
        refine (H_l.out _).mono ?_
        rintro e w2 ⟨rfl, rfl⟩
        by_cases zlw : lw = 0
        case neg =>
          have qlw : (lw != 0) = true := by simpa using zlw
          go_wp2_with fail
          go_ret
          exact ⟨ret_bool (by rw [HE.out]; simp [fitP, zlw] <;> (intros; omega)), HB.out⟩
        subst zlw
        go_wp2_with fail
        refine (H_c.out _).mono ?_
        rintro e w2 ⟨rfl, rfl⟩
        go_wp2_with fail
        refine (H_c.out _).mono ?_
        rintro e w2 ⟨rfl, rfl⟩
        by_cases zco : co = 0
        case neg =>
          have qco : (co != 0) = true := by simpa using zco
          go_wp2_with fail
          go_ret
          exact ⟨ret_bool (by rw [HE.out]; simp [fitP, zco] <;> (intros; omega)), HB.out⟩
        subst zco
        go_wp2_with fail
        refine (H_k.out _).mono ?_
        rintro e w2 ⟨rfl, rfl⟩
        go_wp2_with fail
        refine (H_k.out _).mono ?_
        rintro e w2 ⟨rfl, rfl⟩
        by_cases zti : ti = 0
        case neg =>
          have qti : (ti != 0) = true := by simpa using zti
          go_wp2_with fail
          go_ret
          exact ⟨ret_bool (by rw [HE.out]; simp [fitP, zti] <;> (intros; omega)), HB.out⟩
        subst zti
        by_cases ztn : tn = 0
        case neg =>
          have qtn : (0 : Int) < (tn : Int) := by omega
          have qtn3 : 0 < tn := by omega
          have qtn2 : ¬ (tn : Int) = 0 := by omega
          go_wp2_with fail
          go_ret
          exact ⟨ret_bool (by rw [HE.out]; simp [fitP, qtn2, ztn] <;> (intros; omega)), HB.out⟩
        subst ztn
        go_wp2_with fail
        refine (H_o.out _).mono ?_
        rintro e w2 ⟨rfl, rfl⟩
        go_wp2_with fail
        refine (H_o.out _).mono ?_
        rintro e w2 ⟨rfl, rfl⟩
        by_cases zon : on = 0
        · have zck : ck = 0 := HCN.out zon
          subst zon zck
          go_wp2_with fail
          go_ret
          exact ⟨ret_bool (by rw [HE.out]; simp [fitP] <;> (intros; omega)), HB.out⟩
        · have qon : (((on : Nat) : Int) == 0) = false := by simp; omega
          have qon2 : ¬ (on : Int) = 0 := by omega
          go_wp2_with fail
          go_ret
          exact ⟨ret_bool (by rw [HE.out]; simp [fitP, qon2, zon] <;> (intros; omega)), HB.out⟩
end Go.Proofs.YtabfbnpbgdlinaaGreatDoor
