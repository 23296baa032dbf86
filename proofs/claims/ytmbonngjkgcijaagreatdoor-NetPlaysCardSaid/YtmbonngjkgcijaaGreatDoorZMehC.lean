/- The document's own Has, has, in (genmehc.py wrote it.) The document's own May of messages, kinds [1, 4] (genmehc.py wrote it.) The document's own May of messages, kinds [2] (genmehc.py wrote it.) The document's own May of messages, kinds [3] (genmehc.py wrote it.) The document's own May of messages, kinds [11] (genmehc.py wrote it.) -/
import Derived.Test.YtmbonngjkgcijaaGreatDoorZNetP
import Derived.Test.YtmbonngjkgcijaaGreatDoorZMecD
set_option linter.unusedSimpArgs false
set_option linter.unusedVariables false
set_option linter.unnecessarySimpa false
namespace Go.Proofs.YtmbonngjkgcijaaGreatDoor
open Go.RowKit Go.Shelf

set_option maxRecDepth 100000 in
set_option maxHeartbeats 1000000 in
theorem rin_any (n lo hi : Int) (w : World) :
    Calls Tryz.prog 122 #[.int .i64 n, .int .i64 lo, .int .i64 hi] w fun e w' => e = .returned (.bool (fitP true n lo hi)) ∧ w = w' := by
  by_cases h : lo ≤ n
  · have HK : Hid (fitP true n lo hi = decide (n ≤ hi)) := Lib.hid (by unfold fitP; simp [h])
    go_enter Tryz.func122, Tryz.ntmps122
    go_wp2_with fail
    go_ret
    exact ⟨ret_bool HK.out.symm, rfl⟩
  · have HK : Hid (fitP true n lo hi = false) := Lib.hid (by unfold fitP; simp [h])
    go_enter Tryz.func122, Tryz.ntmps122
    go_wp2_with fail
    go_ret
    exact ⟨ret_bool HK.out.symm, rfl⟩
def hasL (l : List UInt8) (c : Nat) : Bool := l.any fun x => x.toNat == c
theorem hasL_take {s : ByteArray} {c k : Nat} (h : k < s.size) (hk : hasL (s.data.toList.take k) c = false) : hasL (s.data.toList.take (k + 1)) c = (s[k].toNat == c) := by
  rw [take_snoc s k h]
  unfold hasL at hk ⊢
  rw [List.any_append, hk]
  simp
theorem hasL_yes {s : ByteArray} {c k : Nat} (h : k < s.size) (hk : s[k].toNat = c) : hasL s.data.toList c = true := by
  unfold hasL
  rw [List.any_eq_true]
  refine ⟨s[k], ?_, by simp [hk]⟩
  have : s.data.toList[k]? = some s[k] := by
    rw [List.getElem?_eq_getElem (by simpa using h)]; rfl
  exact List.mem_of_getElem? this
set_option maxRecDepth 100000 in
set_option maxHeartbeats 1000000 in
theorem rhas_any (s : ByteArray) (c : Nat) (w : World) (hs : s.size ≤ 1073741824) :
    Calls Tryz.prog 123 #[.string s, .int .u8 (c : Int)] w fun e w' => e = .returned (.bool (hasL s.data.toList c)) ∧ w = w' := by
  obtain ⟨hb, hhb⟩ : ∃ b, hasL s.data.toList c = b := ⟨_, rfl⟩
  rw [hhb]
  have HHB := Lib.hid hhb
  clear hhb
  go_enter Tryz.func123, Tryz.ntmps123
  go_wp2
  go_loop [5] (fun i => ∃ k : Nat, k ≤ s.size ∧ i = .int .i64 k ∧ hasL (s.data.toList.take k) c = false) (fun i => s.size - (intOf i).toNat)
  case atStart => exact ⟨0, Nat.zero_le _, rfl, rfl⟩
  case round =>
    obtain ⟨k, hk, rfl, hp⟩ := hrel
    by_cases hlt : k < s.size
    · have HP := Lib.hid (hasL_take hlt hp)
      by_cases hc : s[k].toNat = c
      · have HY := Lib.hid (hasL_yes hlt hc)
        have hq : (((s[k].toNat : Nat) : Int) == (c : Int)) = true := by rw [hc]; simp
        clear hp hc
        go_wp2
        go_ret
        exact ⟨ret_bool (by rw [← HHB.out, HY.out]), rfl⟩
      · have HN : Hid (hasL (s.data.toList.take (k + 1)) c = false) := Lib.hid (by rw [HP.out]; simpa using hc)
        have hq : (((s[k].toNat : Nat) : Int) == (c : Int)) = false := by simp; omega
        clear hp hc
        go_wp2
        go_round
        case rel => exact ⟨k + 1, by omega, by go_num, HN.out⟩
        case measure => simp [intOf]; omega
    · have HF : Hid (hb = false) := Lib.hid (by
        rw [List.take_of_length_le (by simp; omega)] at hp
        rw [← HHB.out]
        exact hp)
      clear hp
      go_wp2
      go_ret
      exact ⟨ret_bool HF.out.symm, rfl⟩
set_option maxRecDepth 100000 in
set_option maxHeartbeats 1000000 in
theorem rHas_A {k : Int} (hk : k ∈ ([1, 4] : List Int)) (w : World) :
    Calls Tryz.prog 121 #[.int .i64 k] w fun e w' => e = .returned (.string ⟨#[116, 108, 111]⟩) ∧ w = w' := by
  simp only [List.mem_cons, List.not_mem_nil, or_false] at hk
  rcases hk with rfl | rfl
  all_goals
    go_enter Tryz.func121, Tryz.ntmps121
    go_wp2_with fail
    go_ret
    exact ⟨rfl, rfl⟩
set_option maxRecDepth 100000 in
set_option maxHeartbeats 1000000 in
theorem rHas_B {k : Int} (hk : k ∈ ([2] : List Int)) (w : World) :
    Calls Tryz.prog 121 #[.int .i64 k] w fun e w' => e = .returned (.string ⟨#[116, 108]⟩) ∧ w = w' := by
  simp only [List.mem_cons, List.not_mem_nil, or_false] at hk
  rcases hk with rfl
  all_goals
    go_enter Tryz.func121, Tryz.ntmps121
    go_wp2_with fail
    go_ret
    exact ⟨rfl, rfl⟩
set_option maxRecDepth 100000 in
set_option maxHeartbeats 1000000 in
theorem rHas_C {k : Int} (hk : k ∈ ([3] : List Int)) (w : World) :
    Calls Tryz.prog 121 #[.int .i64 k] w fun e w' => e = .returned (.string ⟨#[108]⟩) ∧ w = w' := by
  simp only [List.mem_cons, List.not_mem_nil, or_false] at hk
  rcases hk with rfl
  all_goals
    go_enter Tryz.func121, Tryz.ntmps121
    go_wp2_with fail
    go_ret
    exact ⟨rfl, rfl⟩
set_option maxRecDepth 100000 in
set_option maxHeartbeats 1000000 in
theorem rHas_D {k : Int} (hk : k ∈ ([11] : List Int)) (w : World) :
    Calls Tryz.prog 121 #[.int .i64 k] w fun e w' => e = .returned (.string ⟨#[116, 107]⟩) ∧ w = w' := by
  simp only [List.mem_cons, List.not_mem_nil, or_false] at hk
  rcases hk with rfl
  all_goals
    go_enter Tryz.func121, Tryz.ntmps121
    go_wp2_with fail
    go_ret
    exact ⟨rfl, rfl⟩
set_option maxRecDepth 100000 in
set_option maxHeartbeats 1000000 in
theorem rHas_E {k : Int} (hk : k ∈ ([12, 14] : List Int)) (w : World) :
    Calls Tryz.prog 121 #[.int .i64 k] w fun e w' => e = .returned (.string ⟨#[116, 99]⟩) ∧ w = w' := by
  simp only [List.mem_cons, List.not_mem_nil, or_false] at hk
  rcases hk with rfl | rfl
  all_goals
    go_enter Tryz.func121, Tryz.ntmps121
    go_wp2_with fail
    go_ret
    exact ⟨rfl, rfl⟩
set_option maxRecDepth 100000 in
set_option maxHeartbeats 1000000 in
theorem rHas_F {k : Int} (hk : k ∈ ([13, 15, 16] : List Int)) (w : World) :
    Calls Tryz.prog 121 #[.int .i64 k] w fun e w' => e = .returned (.string ⟨#[]⟩) ∧ w = w' := by
  simp only [List.mem_cons, List.not_mem_nil, or_false] at hk
  rcases hk with rfl | rfl | rfl
  all_goals
    go_enter Tryz.func121, Tryz.ntmps121
    go_wp2_with fail
    go_ret
    exact ⟨rfl, rfl⟩
set_option maxRecDepth 100000 in
set_option maxHeartbeats 1000000 in
theorem rHas_none {k : Int} (hk : ¬ ((1 ≤ k ∧ k ≤ 4) ∨ (11 ≤ k ∧ k ≤ 16))) (w : World) :
    Calls Tryz.prog 121 #[.int .i64 k] w fun e w' => e = .returned (.string ⟨#[63]⟩) ∧ w = w' := by
  have g1 : ¬ k = 1 := by omega
  have g2 : ¬ k = 2 := by omega
  have g3 : ¬ k = 3 := by omega
  have g4 : ¬ k = 4 := by omega
  have g5 : ¬ k = 11 := by omega
  have g6 : ¬ k = 12 := by omega
  have g7 : ¬ k = 13 := by omega
  have g8 : ¬ k = 14 := by omega
  have g9 : ¬ k = 15 := by omega
  have g10 : ¬ k = 16 := by omega
  clear hk
  go_enter Tryz.func121, Tryz.ntmps121
  go_wp2_with fail
  go_ret
  exact ⟨rfl, rfl⟩
end Go.Proofs.YtmbonngjkgcijaaGreatDoor

namespace Go.Proofs.YtmbonngjkgcijaaGreatDoor
open Go.RowKit Go.Shelf

set_option maxRecDepth 100000 in
set_option maxHeartbeats 8000000 in
theorem rMay_A {w : World} {v : Value} {m : MsgV} (h : MsgIs w v m) (hg : m.kd ∈ ([1, 4] : List Int)) (hti : m.ti ≤ 9223372036854775807) :
    Calls Tryz.prog 88 #[v] w fun e w' => e = .returned (.bool (mayM m)) ∧ Below w.heap.size w w' := by
  obtain ⟨tA, tc, oA, oc, rfl, ht, ho, hk⟩ := h
  obtain ⟨kd, fr, tt, g, nd, tr, lw, co, ti, tl, os⟩ := m
  simp only at ht ho hk hg hti ⊢
  have HTI := Lib.hid hti
  clear hti
  have HCK := Lib.hid (fun W (hW : Below w.heap.size w W) => rcheck_any (ho.below hW) hk)
  have hcap : tl.length ≤ tc ∧ tc ≤ maxLen ∧ os.length ≤ oc ∧ oc ≤ maxLen := by
    obtain ⟨_, _, e, h1, h2, _⟩ := ht
    obtain ⟨_, _, e', h3, h4, _⟩ := ho.form
    injection e with _ _ e
    injection e' with _ _ e'
    subst e e'
    exact ⟨h1, h2, h3, h4⟩
  obtain ⟨tn, htn⟩ : ∃ n, tl.length = n := ⟨_, rfl⟩
  obtain ⟨on, hon⟩ : ∃ n, os.length = n := ⟨_, rfl⟩
  rw [hon] at HCK
  rw [htn, hon] at hcap ⊢
  obtain ⟨ck, hck⟩ : ∃ c, checkO os = c := ⟨_, rfl⟩
  rw [hck] at HCK
  have HHS := Lib.hid (fun W => rHas_A hg W)
  simp only [List.mem_cons, List.not_mem_nil, or_false] at hg
  have hflags : kindM kd = true ∧ lowM kd = true ∧ tryM kd = true ∧ opsM kd = true ∧ toldM kd = false ∧ codeM kd = false := by
    unfold kindM lowM tryM opsM toldM codeM
    simp only [decide_eq_true_eq, decide_eq_false_iff_not]
    omega
  have HE : Hid (mayM ⟨kd, fr, tt, g, nd, tr, lw, co, ti, tl, os⟩ = (fitP false fr 1 3 && (fitP true tt 1 3 && (fitP true g 1 1048576 && (fitP true nd 0 255 && (fitP true tr 0 1048576 && (fitP true lw 1 1048577 && (fitP false co 1 99 && (fitP false ti 0 9223372036854775807 && (fitP false (tn : Int) 0 8 && (fitP true (on : Int) 0 8 && decide (ck = 0)))))))))))) := Lib.hid (by
    obtain ⟨e1, e2, e3, e4, e5, e6⟩ := hflags
    unfold mayM
    simp only
    rw [htn, hon, hck, e1, e2, e3, e4, e5, e6]
    rfl)
  obtain ⟨rb, hrb⟩ : ∃ b, mayM ⟨kd, fr, tt, g, nd, tr, lw, co, ti, tl, os⟩ = b := ⟨_, rfl⟩
  rw [hrb] at HE ⊢
  have HCO := Lib.hid (show on ≤ 8 ∨ ck ≠ 0 from by
    rw [← hck, ← hon]
    by_cases h : os.length ≤ 8
    · exact .inl h
    · right; unfold checkO; rw [if_pos (by omega)]; decide)
  have HCN := Lib.hid (show on = 0 → ck = 0 from fun h => by
    rw [← hck]
    have : os = [] := List.length_eq_zero_iff.1 (by rw [hon]; exact h)
    subst this
    rfl)
  have hk1 : kd < 10 := by omega
  have hk2 : ¬ 10 < kd := by omega
  have H_t := Lib.hid (fun W => rhas_any ⟨#[116, 108, 111]⟩ 116 W (by decide))
  rw [show hasL (⟨#[116, 108, 111]⟩ : ByteArray).data.toList 116 = true from by decide] at H_t
  have H_l := Lib.hid (fun W => rhas_any ⟨#[116, 108, 111]⟩ 108 W (by decide))
  rw [show hasL (⟨#[116, 108, 111]⟩ : ByteArray).data.toList 108 = true from by decide] at H_l
  have H_c := Lib.hid (fun W => rhas_any ⟨#[116, 108, 111]⟩ 99 W (by decide))
  rw [show hasL (⟨#[116, 108, 111]⟩ : ByteArray).data.toList 99 = false from by decide] at H_c
  have H_k := Lib.hid (fun W => rhas_any ⟨#[116, 108, 111]⟩ 107 W (by decide))
  rw [show hasL (⟨#[116, 108, 111]⟩ : ByteArray).data.toList 107 = false from by decide] at H_k
  have H_o := Lib.hid (fun W => rhas_any ⟨#[116, 108, 111]⟩ 111 W (by decide))
  rw [show hasL (⟨#[116, 108, 111]⟩ : ByteArray).data.toList 111 = true from by decide] at H_o
  obtain ⟨fg, hfg⟩ : ∃ b, fitP true g 1 1048576 = b := ⟨_, rfl⟩
  have I_fg := Lib.hid (fun W => rin_any g 1 1048576 W)
  rw [hfg] at I_fg HE
  clear hfg
  obtain ⟨fn, hfn⟩ : ∃ b, fitP true nd 0 255 = b := ⟨_, rfl⟩
  have I_fn := Lib.hid (fun W => rin_any nd 0 255 W)
  rw [hfn] at I_fn HE
  clear hfn
  obtain ⟨ft, hft⟩ : ∃ b, fitP true tt 1 3 = b := ⟨_, rfl⟩
  have I_ft := Lib.hid (fun W => rin_any tt 1 3 W)
  rw [hft] at I_ft HE
  clear hft
  obtain ⟨fy, hfy⟩ : ∃ b, fitP true tr 0 1048576 = b := ⟨_, rfl⟩
  have I_fy := Lib.hid (fun W => rin_any tr 0 1048576 W)
  rw [hfy] at I_fy HE
  clear hfy
  obtain ⟨fl, hfl⟩ : ∃ b, fitP true lw 1 1048577 = b := ⟨_, rfl⟩
  have I_fl := Lib.hid (fun W => rin_any lw 1 1048577 W)
  rw [hfl] at I_fl HE
  clear hfl
  have HB := Lib.hid (below_new (w := w) (.cells #[.int .i64 kd, .int .i64 fr, .int .i64 tt, .int .i64 g, .int .i64 nd, .int .i64 tr, .int .i64 lw, .int .i64 co, .int .i64 ti, .slice tA tn tc, .slice oA on oc] 37))
  have hcap2 := hcap
  unfold maxLen at hcap2
  have ht8 : tn ≤ 9223372036854775807 := by omega
  have ho8 : on ≤ 9223372036854775807 := by omega
  clear ht ho hk hcap hcap2 htn hon hck hflags hrb hg
  go_enter Tryz.func88, Tryz.ntmps88
  go_wp2_with fail
  refine (HHS.out _).mono ?_
  rintro e w1 ⟨rfl, rfl⟩
  go_wp2_with fail
  refine (I_fg.out _).mono ?_
  rintro e w2 ⟨rfl, rfl⟩
  cases fg with
  | false =>
    go_wp2_with fail
    go_ret
    exact ⟨ret_bool (by rw [HE.out]; simp [fitP] <;> (intros; omega)), HB.out⟩
  | true =>
    go_wp2_with fail
    refine (I_fn.out _).mono ?_
    rintro e w2 ⟨rfl, rfl⟩
    cases fn with
    | false =>
      go_wp2_with fail
      go_ret
      exact ⟨ret_bool (by rw [HE.out]; simp [fitP] <;> (intros; omega)), HB.out⟩
    | true =>
      by_cases zfr : fr = 0
      case neg =>
        have qfr : (fr != 0) = true := by simpa using zfr
        go_wp2_with fail
        go_ret
        exact ⟨ret_bool (by rw [HE.out]; simp [fitP, zfr] <;> (intros; omega)), HB.out⟩
      subst zfr
      go_wp2_with fail
      refine (I_ft.out _).mono ?_
      rintro e w2 ⟨rfl, rfl⟩
      cases ft with
      | false =>
        go_wp2_with fail
        go_ret
        exact ⟨ret_bool (by rw [HE.out]; simp [fitP] <;> (intros; omega)), HB.out⟩
      | true =>
        go_wp2_with fail
        refine (H_t.out _).mono ?_
        rintro e w2 ⟨rfl, rfl⟩
        go_wp2_with fail
        refine (I_fy.out _).mono ?_
        rintro e w2 ⟨rfl, rfl⟩
        cases fy with
        | false =>
          go_wp2_with fail
          go_ret
          exact ⟨ret_bool (by rw [HE.out]; simp [fitP] <;> (intros; omega)), HB.out⟩
        | true =>
          go_wp2_with fail
          refine (H_t.out _).mono ?_
          rintro e w2 ⟨rfl, rfl⟩
          go_wp2_with fail
          refine (H_l.out _).mono ?_
          rintro e w2 ⟨rfl, rfl⟩
          go_wp2_with fail
          refine (I_fl.out _).mono ?_
          rintro e w2 ⟨rfl, rfl⟩
          cases fl with
          | false =>
            go_wp2_with fail
            go_ret
            exact ⟨ret_bool (by rw [HE.out]; simp [fitP] <;> (intros; omega)), HB.out⟩
          | true =>
            go_wp2_with fail
            refine (H_l.out _).mono ?_
            rintro e w2 ⟨rfl, rfl⟩
            go_wp2_with fail
            refine (H_c.out _).mono ?_
            rintro e w2 ⟨rfl, rfl⟩
            go_wp2_with fail
            refine (H_c.out _).mono ?_
            rintro e w2 ⟨rfl, rfl⟩
            by_cases zco : co = 0
            case neg =>
              have qco : (co != 0) = true := by simpa using zco
              go_wp2_with fail
              go_ret
              exact ⟨ret_bool (by rw [HE.out]; simp [fitP, zco] <;> (intros; omega)), HB.out⟩
            subst zco
            go_wp2_with fail
            refine (H_k.out _).mono ?_
            rintro e w2 ⟨rfl, rfl⟩
            go_wp2_with fail
            refine (H_k.out _).mono ?_
            rintro e w2 ⟨rfl, rfl⟩
            by_cases zti : ti = 0
            case neg =>
              have qti : (ti != 0) = true := by simpa using zti
              go_wp2_with fail
              go_ret
              exact ⟨ret_bool (by rw [HE.out]; simp [fitP, zti] <;> (intros; omega)), HB.out⟩
            subst zti
            by_cases ztn : tn = 0
            case neg =>
              have qtn : (0 : Int) < (tn : Int) := by omega
              have qtn3 : 0 < tn := by omega
              have qtn2 : ¬ (tn : Int) = 0 := by omega
              go_wp2_with fail
              go_ret
              exact ⟨ret_bool (by rw [HE.out]; simp [fitP, qtn2, ztn] <;> (intros; omega)), HB.out⟩
            subst ztn
            go_wp2_with fail
            refine (H_o.out _).mono ?_
            rintro e w2 ⟨rfl, rfl⟩
            go_wp2_with fail
            refine (HCK.out _ HB.out).mono ?_
            rintro e w3 ⟨rfl, hb3⟩
            have HB3 := Lib.hid (HB.out.trans (hb3.mono HB.out.size))
            clear hb3
            by_cases zck : ck = 0
            · subst zck
              have hon8 : on ≤ 8 := by
                rcases HCO.out with h | h
                · exact h
                · exact absurd rfl h
              have hon9 : (on : Int) ≤ 8 := by omega
              go_wp2_with fail
              refine ((fun h : True => ?_) trivial)
              go_ret
              exact ⟨ret_bool (by rw [HE.out]; simp [fitP, hon9] <;> (intros; omega)), HB3.out⟩
            · have qck : (((ck : Nat) : Int) == 0) = false := by simp; omega
              go_wp2_with fail
              refine (H_o.out _).mono ?_
              rintro e w4 ⟨rfl, rfl⟩
              go_wp2_with fail
              go_ret
              exact ⟨ret_bool (by rw [HE.out]; simp [zck] <;> (intros; omega)), HB3.out⟩
end Go.Proofs.YtmbonngjkgcijaaGreatDoor

namespace Go.Proofs.YtmbonngjkgcijaaGreatDoor
open Go.RowKit Go.Shelf

set_option maxRecDepth 100000 in
set_option maxHeartbeats 8000000 in
theorem rMay_B {w : World} {v : Value} {m : MsgV} (h : MsgIs w v m) (hg : m.kd ∈ ([2] : List Int)) (hti : m.ti ≤ 9223372036854775807) :
    Calls Tryz.prog 88 #[v] w fun e w' => e = .returned (.bool (mayM m)) ∧ Below w.heap.size w w' := by
  obtain ⟨tA, tc, oA, oc, rfl, ht, ho, hk⟩ := h
  obtain ⟨kd, fr, tt, g, nd, tr, lw, co, ti, tl, os⟩ := m
  simp only at ht ho hk hg hti ⊢
  have HTI := Lib.hid hti
  clear hti
  have HCK := Lib.hid (fun W (hW : Below w.heap.size w W) => rcheck_any (ho.below hW) hk)
  have hcap : tl.length ≤ tc ∧ tc ≤ maxLen ∧ os.length ≤ oc ∧ oc ≤ maxLen := by
    obtain ⟨_, _, e, h1, h2, _⟩ := ht
    obtain ⟨_, _, e', h3, h4, _⟩ := ho.form
    injection e with _ _ e
    injection e' with _ _ e'
    subst e e'
    exact ⟨h1, h2, h3, h4⟩
  obtain ⟨tn, htn⟩ : ∃ n, tl.length = n := ⟨_, rfl⟩
  obtain ⟨on, hon⟩ : ∃ n, os.length = n := ⟨_, rfl⟩
  rw [hon] at HCK
  rw [htn, hon] at hcap ⊢
  obtain ⟨ck, hck⟩ : ∃ c, checkO os = c := ⟨_, rfl⟩
  rw [hck] at HCK
  have HHS := Lib.hid (fun W => rHas_B hg W)
  simp only [List.mem_cons, List.not_mem_nil, or_false] at hg
  have hflags : kindM kd = true ∧ lowM kd = true ∧ tryM kd = true ∧ opsM kd = false ∧ toldM kd = false ∧ codeM kd = false := by
    unfold kindM lowM tryM opsM toldM codeM
    simp only [decide_eq_true_eq, decide_eq_false_iff_not]
    omega
  have HE : Hid (mayM ⟨kd, fr, tt, g, nd, tr, lw, co, ti, tl, os⟩ = (fitP false fr 1 3 && (fitP true tt 1 3 && (fitP true g 1 1048576 && (fitP true nd 0 255 && (fitP true tr 0 1048576 && (fitP true lw 1 1048577 && (fitP false co 1 99 && (fitP false ti 0 9223372036854775807 && (fitP false (tn : Int) 0 8 && (fitP false (on : Int) 0 8 && decide (ck = 0)))))))))))) := Lib.hid (by
    obtain ⟨e1, e2, e3, e4, e5, e6⟩ := hflags
    unfold mayM
    simp only
    rw [htn, hon, hck, e1, e2, e3, e4, e5, e6]
    rfl)
  obtain ⟨rb, hrb⟩ : ∃ b, mayM ⟨kd, fr, tt, g, nd, tr, lw, co, ti, tl, os⟩ = b := ⟨_, rfl⟩
  rw [hrb] at HE ⊢
  have HCO := Lib.hid (show on ≤ 8 ∨ ck ≠ 0 from by
    rw [← hck, ← hon]
    by_cases h : os.length ≤ 8
    · exact .inl h
    · right; unfold checkO; rw [if_pos (by omega)]; decide)
  have HCN := Lib.hid (show on = 0 → ck = 0 from fun h => by
    rw [← hck]
    have : os = [] := List.length_eq_zero_iff.1 (by rw [hon]; exact h)
    subst this
    rfl)
  have hk1 : kd < 10 := by omega
  have hk2 : ¬ 10 < kd := by omega
  have H_t := Lib.hid (fun W => rhas_any ⟨#[116, 108]⟩ 116 W (by decide))
  rw [show hasL (⟨#[116, 108]⟩ : ByteArray).data.toList 116 = true from by decide] at H_t
  have H_l := Lib.hid (fun W => rhas_any ⟨#[116, 108]⟩ 108 W (by decide))
  rw [show hasL (⟨#[116, 108]⟩ : ByteArray).data.toList 108 = true from by decide] at H_l
  have H_c := Lib.hid (fun W => rhas_any ⟨#[116, 108]⟩ 99 W (by decide))
  rw [show hasL (⟨#[116, 108]⟩ : ByteArray).data.toList 99 = false from by decide] at H_c
  have H_k := Lib.hid (fun W => rhas_any ⟨#[116, 108]⟩ 107 W (by decide))
  rw [show hasL (⟨#[116, 108]⟩ : ByteArray).data.toList 107 = false from by decide] at H_k
  have H_o := Lib.hid (fun W => rhas_any ⟨#[116, 108]⟩ 111 W (by decide))
  rw [show hasL (⟨#[116, 108]⟩ : ByteArray).data.toList 111 = false from by decide] at H_o
  obtain ⟨fg, hfg⟩ : ∃ b, fitP true g 1 1048576 = b := ⟨_, rfl⟩
  have I_fg := Lib.hid (fun W => rin_any g 1 1048576 W)
  rw [hfg] at I_fg HE
  clear hfg
  obtain ⟨fn, hfn⟩ : ∃ b, fitP true nd 0 255 = b := ⟨_, rfl⟩
  have I_fn := Lib.hid (fun W => rin_any nd 0 255 W)
  rw [hfn] at I_fn HE
  clear hfn
  obtain ⟨ft, hft⟩ : ∃ b, fitP true tt 1 3 = b := ⟨_, rfl⟩
  have I_ft := Lib.hid (fun W => rin_any tt 1 3 W)
  rw [hft] at I_ft HE
  clear hft
  obtain ⟨fy, hfy⟩ : ∃ b, fitP true tr 0 1048576 = b := ⟨_, rfl⟩
  have I_fy := Lib.hid (fun W => rin_any tr 0 1048576 W)
  rw [hfy] at I_fy HE
  clear hfy
  obtain ⟨fl, hfl⟩ : ∃ b, fitP true lw 1 1048577 = b := ⟨_, rfl⟩
  have I_fl := Lib.hid (fun W => rin_any lw 1 1048577 W)
  rw [hfl] at I_fl HE
  clear hfl
  have HB := Lib.hid (below_new (w := w) (.cells #[.int .i64 kd, .int .i64 fr, .int .i64 tt, .int .i64 g, .int .i64 nd, .int .i64 tr, .int .i64 lw, .int .i64 co, .int .i64 ti, .slice tA tn tc, .slice oA on oc] 37))
  have hcap2 := hcap
  unfold maxLen at hcap2
  have ht8 : tn ≤ 9223372036854775807 := by omega
  have ho8 : on ≤ 9223372036854775807 := by omega
  clear ht ho hk hcap hcap2 htn hon hck hflags hrb hg
  go_enter Tryz.func88, Tryz.ntmps88
  go_wp2_with fail
  refine (HHS.out _).mono ?_
  rintro e w1 ⟨rfl, rfl⟩
  go_wp2_with fail
  refine (I_fg.out _).mono ?_
  rintro e w2 ⟨rfl, rfl⟩
  cases fg with
  | false =>
    go_wp2_with fail
    go_ret
    exact ⟨ret_bool (by rw [HE.out]; simp [fitP] <;> (intros; omega)), HB.out⟩
  | true =>
    go_wp2_with fail
    refine (I_fn.out _).mono ?_
    rintro e w2 ⟨rfl, rfl⟩
    cases fn with
    | false =>
      go_wp2_with fail
      go_ret
      exact ⟨ret_bool (by rw [HE.out]; simp [fitP] <;> (intros; omega)), HB.out⟩
    | true =>
      by_cases zfr : fr = 0
      case neg =>
        have qfr : (fr != 0) = true := by simpa using zfr
        go_wp2_with fail
        go_ret
        exact ⟨ret_bool (by rw [HE.out]; simp [fitP, zfr] <;> (intros; omega)), HB.out⟩
      subst zfr
      go_wp2_with fail
      refine (I_ft.out _).mono ?_
      rintro e w2 ⟨rfl, rfl⟩
      cases ft with
      | false =>
        go_wp2_with fail
        go_ret
        exact ⟨ret_bool (by rw [HE.out]; simp [fitP] <;> (intros; omega)), HB.out⟩
      | true =>
        go_wp2_with fail
        refine (H_t.out _).mono ?_
        rintro e w2 ⟨rfl, rfl⟩
        go_wp2_with fail
        refine (I_fy.out _).mono ?_
        rintro e w2 ⟨rfl, rfl⟩
        cases fy with
        | false =>
          go_wp2_with fail
          go_ret
          exact ⟨ret_bool (by rw [HE.out]; simp [fitP] <;> (intros; omega)), HB.out⟩
        | true =>
          go_wp2_with fail
          refine (H_t.out _).mono ?_
          rintro e w2 ⟨rfl, rfl⟩
          go_wp2_with fail
          refine (H_l.out _).mono ?_
          rintro e w2 ⟨rfl, rfl⟩
          go_wp2_with fail
          refine (I_fl.out _).mono ?_
          rintro e w2 ⟨rfl, rfl⟩
          cases fl with
          | false =>
            go_wp2_with fail
            go_ret
            exact ⟨ret_bool (by rw [HE.out]; simp [fitP] <;> (intros; omega)), HB.out⟩
          | true =>
            go_wp2_with fail
            refine (H_l.out _).mono ?_
            rintro e w2 ⟨rfl, rfl⟩
            go_wp2_with fail
            refine (H_c.out _).mono ?_
            rintro e w2 ⟨rfl, rfl⟩
            go_wp2_with fail
            refine (H_c.out _).mono ?_
            rintro e w2 ⟨rfl, rfl⟩
            by_cases zco : co = 0
            case neg =>
              have qco : (co != 0) = true := by simpa using zco
              go_wp2_with fail
              go_ret
              exact ⟨ret_bool (by rw [HE.out]; simp [fitP, zco] <;> (intros; omega)), HB.out⟩
            subst zco
            go_wp2_with fail
            refine (H_k.out _).mono ?_
            rintro e w2 ⟨rfl, rfl⟩
            go_wp2_with fail
            refine (H_k.out _).mono ?_
            rintro e w2 ⟨rfl, rfl⟩
            by_cases zti : ti = 0
            case neg =>
              have qti : (ti != 0) = true := by simpa using zti
              go_wp2_with fail
              go_ret
              exact ⟨ret_bool (by rw [HE.out]; simp [fitP, zti] <;> (intros; omega)), HB.out⟩
            subst zti
            by_cases ztn : tn = 0
            case neg =>
              have qtn : (0 : Int) < (tn : Int) := by omega
              have qtn3 : 0 < tn := by omega
              have qtn2 : ¬ (tn : Int) = 0 := by omega
              go_wp2_with fail
              go_ret
              exact ⟨ret_bool (by rw [HE.out]; simp [fitP, qtn2, ztn] <;> (intros; omega)), HB.out⟩
            subst ztn
            go_wp2_with fail
            refine (H_o.out _).mono ?_
            rintro e w2 ⟨rfl, rfl⟩
            go_wp2_with fail
            refine (H_o.out _).mono ?_
            rintro e w2 ⟨rfl, rfl⟩
            by_cases zon : on = 0
            · have zck : ck = 0 := HCN.out zon
              subst zon zck
              go_wp2_with fail
              go_ret
              exact ⟨ret_bool (by rw [HE.out]; simp [fitP] <;> (intros; omega)), HB.out⟩
            · have qon : (((on : Nat) : Int) == 0) = false := by simp; omega
              have qon2 : ¬ (on : Int) = 0 := by omega
              go_wp2_with fail
              go_ret
              exact ⟨ret_bool (by rw [HE.out]; simp [fitP, qon2, zon] <;> (intros; omega)), HB.out⟩
end Go.Proofs.YtmbonngjkgcijaaGreatDoor

namespace Go.Proofs.YtmbonngjkgcijaaGreatDoor
open Go.RowKit Go.Shelf

set_option maxRecDepth 100000 in
set_option maxHeartbeats 8000000 in
theorem rMay_C {w : World} {v : Value} {m : MsgV} (h : MsgIs w v m) (hg : m.kd ∈ ([3] : List Int)) (hti : m.ti ≤ 9223372036854775807) :
    Calls Tryz.prog 88 #[v] w fun e w' => e = .returned (.bool (mayM m)) ∧ Below w.heap.size w w' := by
  obtain ⟨tA, tc, oA, oc, rfl, ht, ho, hk⟩ := h
  obtain ⟨kd, fr, tt, g, nd, tr, lw, co, ti, tl, os⟩ := m
  simp only at ht ho hk hg hti ⊢
  have HTI := Lib.hid hti
  clear hti
  have HCK := Lib.hid (fun W (hW : Below w.heap.size w W) => rcheck_any (ho.below hW) hk)
  have hcap : tl.length ≤ tc ∧ tc ≤ maxLen ∧ os.length ≤ oc ∧ oc ≤ maxLen := by
    obtain ⟨_, _, e, h1, h2, _⟩ := ht
    obtain ⟨_, _, e', h3, h4, _⟩ := ho.form
    injection e with _ _ e
    injection e' with _ _ e'
    subst e e'
    exact ⟨h1, h2, h3, h4⟩
  obtain ⟨tn, htn⟩ : ∃ n, tl.length = n := ⟨_, rfl⟩
  obtain ⟨on, hon⟩ : ∃ n, os.length = n := ⟨_, rfl⟩
  rw [hon] at HCK
  rw [htn, hon] at hcap ⊢
  obtain ⟨ck, hck⟩ : ∃ c, checkO os = c := ⟨_, rfl⟩
  rw [hck] at HCK
  have HHS := Lib.hid (fun W => rHas_C hg W)
  simp only [List.mem_cons, List.not_mem_nil, or_false] at hg
  have hflags : kindM kd = true ∧ lowM kd = true ∧ tryM kd = false ∧ opsM kd = false ∧ toldM kd = false ∧ codeM kd = false := by
    unfold kindM lowM tryM opsM toldM codeM
    simp only [decide_eq_true_eq, decide_eq_false_iff_not]
    omega
  have HE : Hid (mayM ⟨kd, fr, tt, g, nd, tr, lw, co, ti, tl, os⟩ = (fitP false fr 1 3 && (fitP true tt 1 3 && (fitP true g 1 1048576 && (fitP true nd 0 255 && (fitP false tr 0 1048576 && (fitP true lw 1 1048577 && (fitP false co 1 99 && (fitP false ti 0 9223372036854775807 && (fitP false (tn : Int) 0 8 && (fitP false (on : Int) 0 8 && decide (ck = 0)))))))))))) := Lib.hid (by
    obtain ⟨e1, e2, e3, e4, e5, e6⟩ := hflags
    unfold mayM
    simp only
    rw [htn, hon, hck, e1, e2, e3, e4, e5, e6]
    rfl)
  obtain ⟨rb, hrb⟩ : ∃ b, mayM ⟨kd, fr, tt, g, nd, tr, lw, co, ti, tl, os⟩ = b := ⟨_, rfl⟩
  rw [hrb] at HE ⊢
  have HCO := Lib.hid (show on ≤ 8 ∨ ck ≠ 0 from by
    rw [← hck, ← hon]
    by_cases h : os.length ≤ 8
    · exact .inl h
    · right; unfold checkO; rw [if_pos (by omega)]; decide)
  have HCN := Lib.hid (show on = 0 → ck = 0 from fun h => by
    rw [← hck]
    have : os = [] := List.length_eq_zero_iff.1 (by rw [hon]; exact h)
    subst this
    rfl)
  have hk1 : kd < 10 := by omega
  have hk2 : ¬ 10 < kd := by omega
  have H_t := Lib.hid (fun W => rhas_any ⟨#[108]⟩ 116 W (by decide))
  rw [show hasL (⟨#[108]⟩ : ByteArray).data.toList 116 = false from by decide] at H_t
  have H_l := Lib.hid (fun W => rhas_any ⟨#[108]⟩ 108 W (by decide))
  rw [show hasL (⟨#[108]⟩ : ByteArray).data.toList 108 = true from by decide] at H_l
  have H_c := Lib.hid (fun W => rhas_any ⟨#[108]⟩ 99 W (by decide))
  rw [show hasL (⟨#[108]⟩ : ByteArray).data.toList 99 = false from by decide] at H_c
  have H_k := Lib.hid (fun W => rhas_any ⟨#[108]⟩ 107 W (by decide))
  rw [show hasL (⟨#[108]⟩ : ByteArray).data.toList 107 = false from by decide] at H_k
  have H_o := Lib.hid (fun W => rhas_any ⟨#[108]⟩ 111 W (by decide))
  rw [show hasL (⟨#[108]⟩ : ByteArray).data.toList 111 = false from by decide] at H_o
  obtain ⟨fg, hfg⟩ : ∃ b, fitP true g 1 1048576 = b := ⟨_, rfl⟩
  have I_fg := Lib.hid (fun W => rin_any g 1 1048576 W)
  rw [hfg] at I_fg HE
  clear hfg
  obtain ⟨fn, hfn⟩ : ∃ b, fitP true nd 0 255 = b := ⟨_, rfl⟩
  have I_fn := Lib.hid (fun W => rin_any nd 0 255 W)
  rw [hfn] at I_fn HE
  clear hfn
  obtain ⟨ft, hft⟩ : ∃ b, fitP true tt 1 3 = b := ⟨_, rfl⟩
  have I_ft := Lib.hid (fun W => rin_any tt 1 3 W)
  rw [hft] at I_ft HE
  clear hft
  obtain ⟨fl, hfl⟩ : ∃ b, fitP true lw 1 1048577 = b := ⟨_, rfl⟩
  have I_fl := Lib.hid (fun W => rin_any lw 1 1048577 W)
  rw [hfl] at I_fl HE
  clear hfl
  have HB := Lib.hid (below_new (w := w) (.cells #[.int .i64 kd, .int .i64 fr, .int .i64 tt, .int .i64 g, .int .i64 nd, .int .i64 tr, .int .i64 lw, .int .i64 co, .int .i64 ti, .slice tA tn tc, .slice oA on oc] 37))
  have hcap2 := hcap
  unfold maxLen at hcap2
  have ht8 : tn ≤ 9223372036854775807 := by omega
  have ho8 : on ≤ 9223372036854775807 := by omega
  clear ht ho hk hcap hcap2 htn hon hck hflags hrb hg
  go_enter Tryz.func88, Tryz.ntmps88
  go_wp2_with fail
  refine (HHS.out _).mono ?_
  rintro e w1 ⟨rfl, rfl⟩
  go_wp2_with fail
  refine (I_fg.out _).mono ?_
  rintro e w2 ⟨rfl, rfl⟩
  cases fg with
  | false =>
    go_wp2_with fail
    go_ret
    exact ⟨ret_bool (by rw [HE.out]; simp [fitP] <;> (intros; omega)), HB.out⟩
  | true =>
    go_wp2_with fail
    refine (I_fn.out _).mono ?_
    rintro e w2 ⟨rfl, rfl⟩
    cases fn with
    | false =>
      go_wp2_with fail
      go_ret
      exact ⟨ret_bool (by rw [HE.out]; simp [fitP] <;> (intros; omega)), HB.out⟩
    | true =>
      by_cases zfr : fr = 0
      case neg =>
        have qfr : (fr != 0) = true := by simpa using zfr
        go_wp2_with fail
        go_ret
        exact ⟨ret_bool (by rw [HE.out]; simp [fitP, zfr] <;> (intros; omega)), HB.out⟩
      subst zfr
      go_wp2_with fail
      refine (I_ft.out _).mono ?_
      rintro e w2 ⟨rfl, rfl⟩
      cases ft with
      | false =>
        go_wp2_with fail
        go_ret
        exact ⟨ret_bool (by rw [HE.out]; simp [fitP] <;> (intros; omega)), HB.out⟩
      | true =>
        go_wp2_with fail
        refine (H_t.out _).mono ?_
        rintro e w2 ⟨rfl, rfl⟩
        go_wp2_with fail
        refine (H_t.out _).mono ?_
        rintro e w2 ⟨rfl, rfl⟩
        by_cases ztr : tr = 0
        case neg =>
          have qtr : (tr != 0) = true := by simpa using ztr
          go_wp2_with fail
          go_ret
          exact ⟨ret_bool (by rw [HE.out]; simp [fitP, ztr] <;> (intros; omega)), HB.out⟩
        subst ztr
        go_wp2_with fail
        refine (H_l.out _).mono ?_
        rintro e w2 ⟨rfl, rfl⟩
        go_wp2_with fail
        refine (I_fl.out _).mono ?_
        rintro e w2 ⟨rfl, rfl⟩
        cases fl with
        | false =>
          go_wp2_with fail
          go_ret
          exact ⟨ret_bool (by rw [HE.out]; simp [fitP] <;> (intros; omega)), HB.out⟩
        | true =>
          go_wp2_with fail
          refine (H_l.out _).mono ?_
          rintro e w2 ⟨rfl, rfl⟩
          go_wp2_with fail
          refine (H_c.out _).mono ?_
          rintro e w2 ⟨rfl, rfl⟩
          go_wp2_with fail
          refine (H_c.out _).mono ?_
          rintro e w2 ⟨rfl, rfl⟩
          by_cases zco : co = 0
          case neg =>
            have qco : (co != 0) = true := by simpa using zco
            go_wp2_with fail
            go_ret
            exact ⟨ret_bool (by rw [HE.out]; simp [fitP, zco] <;> (intros; omega)), HB.out⟩
          subst zco
          go_wp2_with fail
          refine (H_k.out _).mono ?_
          rintro e w2 ⟨rfl, rfl⟩
          go_wp2_with fail
          refine (H_k.out _).mono ?_
          rintro e w2 ⟨rfl, rfl⟩
          by_cases zti : ti = 0
          case neg =>
            have qti : (ti != 0) = true := by simpa using zti
            go_wp2_with fail
            go_ret
            exact ⟨ret_bool (by rw [HE.out]; simp [fitP, zti] <;> (intros; omega)), HB.out⟩
          subst zti
          by_cases ztn : tn = 0
          case neg =>
            have qtn : (0 : Int) < (tn : Int) := by omega
            have qtn3 : 0 < tn := by omega
            have qtn2 : ¬ (tn : Int) = 0 := by omega
            go_wp2_with fail
            go_ret
            exact ⟨ret_bool (by rw [HE.out]; simp [fitP, qtn2, ztn] <;> (intros; omega)), HB.out⟩
          subst ztn
          go_wp2_with fail
          refine (H_o.out _).mono ?_
          rintro e w2 ⟨rfl, rfl⟩
          go_wp2_with fail
          refine (H_o.out _).mono ?_
          rintro e w2 ⟨rfl, rfl⟩
          by_cases zon : on = 0
          · have zck : ck = 0 := HCN.out zon
            subst zon zck
            go_wp2_with fail
            go_ret
            exact ⟨ret_bool (by rw [HE.out]; simp [fitP] <;> (intros; omega)), HB.out⟩
          · have qon : (((on : Nat) : Int) == 0) = false := by simp; omega
            have qon2 : ¬ (on : Int) = 0 := by omega
            go_wp2_with fail
            go_ret
            exact ⟨ret_bool (by rw [HE.out]; simp [fitP, qon2, zon] <;> (intros; omega)), HB.out⟩
end Go.Proofs.YtmbonngjkgcijaaGreatDoor

namespace Go.Proofs.YtmbonngjkgcijaaGreatDoor
open Go.RowKit Go.Shelf

set_option maxRecDepth 100000 in
set_option maxHeartbeats 8000000 in
theorem rMay_D {w : World} {v : Value} {m : MsgV} (h : MsgIs w v m) (hg : m.kd ∈ ([11] : List Int)) (hti : m.ti ≤ 9223372036854775807) :
    Calls Tryz.prog 88 #[v] w fun e w' => e = .returned (.bool (mayM m)) ∧ Below w.heap.size w w' := by
  obtain ⟨tA, tc, oA, oc, rfl, ht, ho, hk⟩ := h
  obtain ⟨kd, fr, tt, g, nd, tr, lw, co, ti, tl, os⟩ := m
  simp only at ht ho hk hg hti ⊢
  have HTI := Lib.hid hti
  clear hti
  have HCK := Lib.hid (fun W (hW : Below w.heap.size w W) => rcheck_any (ho.below hW) hk)
  have hcap : tl.length ≤ tc ∧ tc ≤ maxLen ∧ os.length ≤ oc ∧ oc ≤ maxLen := by
    obtain ⟨_, _, e, h1, h2, _⟩ := ht
    obtain ⟨_, _, e', h3, h4, _⟩ := ho.form
    injection e with _ _ e
    injection e' with _ _ e'
    subst e e'
    exact ⟨h1, h2, h3, h4⟩
  obtain ⟨tn, htn⟩ : ∃ n, tl.length = n := ⟨_, rfl⟩
  obtain ⟨on, hon⟩ : ∃ n, os.length = n := ⟨_, rfl⟩
  rw [hon] at HCK
  rw [htn, hon] at hcap ⊢
  obtain ⟨ck, hck⟩ : ∃ c, checkO os = c := ⟨_, rfl⟩
  rw [hck] at HCK
  have HHS := Lib.hid (fun W => rHas_D hg W)
  simp only [List.mem_cons, List.not_mem_nil, or_false] at hg
  have hflags : kindM kd = true ∧ lowM kd = false ∧ tryM kd = true ∧ opsM kd = false ∧ toldM kd = true ∧ codeM kd = false := by
    unfold kindM lowM tryM opsM toldM codeM
    simp only [decide_eq_true_eq, decide_eq_false_iff_not]
    omega
  have HE : Hid (mayM ⟨kd, fr, tt, g, nd, tr, lw, co, ti, tl, os⟩ = (fitP true fr 1 3 && (fitP false tt 1 3 && (fitP true g 1 1048576 && (fitP true nd 0 255 && (fitP true tr 0 1048576 && (fitP false lw 1 1048577 && (fitP false co 1 99 && (fitP true ti 0 9223372036854775807 && (fitP true (tn : Int) 0 8 && (fitP false (on : Int) 0 8 && decide (ck = 0)))))))))))) := Lib.hid (by
    obtain ⟨e1, e2, e3, e4, e5, e6⟩ := hflags
    unfold mayM
    simp only
    rw [htn, hon, hck, e1, e2, e3, e4, e5, e6]
    rfl)
  obtain ⟨rb, hrb⟩ : ∃ b, mayM ⟨kd, fr, tt, g, nd, tr, lw, co, ti, tl, os⟩ = b := ⟨_, rfl⟩
  rw [hrb] at HE ⊢
  have HCO := Lib.hid (show on ≤ 8 ∨ ck ≠ 0 from by
    rw [← hck, ← hon]
    by_cases h : os.length ≤ 8
    · exact .inl h
    · right; unfold checkO; rw [if_pos (by omega)]; decide)
  have HCN := Lib.hid (show on = 0 → ck = 0 from fun h => by
    rw [← hck]
    have : os = [] := List.length_eq_zero_iff.1 (by rw [hon]; exact h)
    subst this
    rfl)
  have hk1 : ¬ kd < 10 := by omega
  have hk2 : 10 < kd := by omega
  have H_t := Lib.hid (fun W => rhas_any ⟨#[116, 107]⟩ 116 W (by decide))
  rw [show hasL (⟨#[116, 107]⟩ : ByteArray).data.toList 116 = true from by decide] at H_t
  have H_l := Lib.hid (fun W => rhas_any ⟨#[116, 107]⟩ 108 W (by decide))
  rw [show hasL (⟨#[116, 107]⟩ : ByteArray).data.toList 108 = false from by decide] at H_l
  have H_c := Lib.hid (fun W => rhas_any ⟨#[116, 107]⟩ 99 W (by decide))
  rw [show hasL (⟨#[116, 107]⟩ : ByteArray).data.toList 99 = false from by decide] at H_c
  have H_k := Lib.hid (fun W => rhas_any ⟨#[116, 107]⟩ 107 W (by decide))
  rw [show hasL (⟨#[116, 107]⟩ : ByteArray).data.toList 107 = true from by decide] at H_k
  have H_o := Lib.hid (fun W => rhas_any ⟨#[116, 107]⟩ 111 W (by decide))
  rw [show hasL (⟨#[116, 107]⟩ : ByteArray).data.toList 111 = false from by decide] at H_o
  obtain ⟨fg, hfg⟩ : ∃ b, fitP true g 1 1048576 = b := ⟨_, rfl⟩
  have I_fg := Lib.hid (fun W => rin_any g 1 1048576 W)
  rw [hfg] at I_fg HE
  clear hfg
  obtain ⟨fn, hfn⟩ : ∃ b, fitP true nd 0 255 = b := ⟨_, rfl⟩
  have I_fn := Lib.hid (fun W => rin_any nd 0 255 W)
  rw [hfn] at I_fn HE
  clear hfn
  obtain ⟨ff, hff⟩ : ∃ b, fitP true fr 1 3 = b := ⟨_, rfl⟩
  have I_ff := Lib.hid (fun W => rin_any fr 1 3 W)
  rw [hff] at I_ff HE
  clear hff
  obtain ⟨fy, hfy⟩ : ∃ b, fitP true tr 0 1048576 = b := ⟨_, rfl⟩
  have I_fy := Lib.hid (fun W => rin_any tr 0 1048576 W)
  rw [hfy] at I_fy HE
  clear hfy
  have HB := Lib.hid (below_new (w := w) (.cells #[.int .i64 kd, .int .i64 fr, .int .i64 tt, .int .i64 g, .int .i64 nd, .int .i64 tr, .int .i64 lw, .int .i64 co, .int .i64 ti, .slice tA tn tc, .slice oA on oc] 37))
  have hcap2 := hcap
  unfold maxLen at hcap2
  have ht8 : tn ≤ 9223372036854775807 := by omega
  have ho8 : on ≤ 9223372036854775807 := by omega
  clear ht ho hk hcap hcap2 htn hon hck hflags hrb hg
  go_enter Tryz.func88, Tryz.ntmps88
  go_wp2_with fail
  refine (HHS.out _).mono ?_
  rintro e w1 ⟨rfl, rfl⟩
  go_wp2_with fail
  refine (I_fg.out _).mono ?_
  rintro e w2 ⟨rfl, rfl⟩
  cases fg with
  | false =>
    go_wp2_with fail
    go_ret
    exact ⟨ret_bool (by rw [HE.out]; simp [fitP] <;> (intros; omega)), HB.out⟩
  | true =>
    go_wp2_with fail
    refine (I_fn.out _).mono ?_
    rintro e w2 ⟨rfl, rfl⟩
    cases fn with
    | false =>
      go_wp2_with fail
      go_ret
      exact ⟨ret_bool (by rw [HE.out]; simp [fitP] <;> (intros; omega)), HB.out⟩
    | true =>
      by_cases ztt : tt = 0
      case neg =>
        have qtt : (tt != 0) = true := by simpa using ztt
        go_wp2_with fail
        go_ret
        exact ⟨ret_bool (by rw [HE.out]; simp [fitP, ztt] <;> (intros; omega)), HB.out⟩
      subst ztt
      go_wp2_with fail
      refine (I_ff.out _).mono ?_
      rintro e w2 ⟨rfl, rfl⟩
      cases ff with
      | false =>
        go_wp2_with fail
        go_ret
        exact ⟨ret_bool (by rw [HE.out]; simp [fitP] <;> (intros; omega)), HB.out⟩
      | true =>
        go_wp2_with fail
        refine (H_t.out _).mono ?_
        rintro e w2 ⟨rfl, rfl⟩
        go_wp2_with fail
        refine (I_fy.out _).mono ?_
        rintro e w2 ⟨rfl, rfl⟩
        cases fy with
        | false =>
          go_wp2_with fail
          go_ret
          exact ⟨ret_bool (by rw [HE.out]; simp [fitP] <;> (intros; omega)), HB.out⟩
        | true =>
          go_wp2_with fail
          refine (H_t.out _).mono ?_
          rintro e w2 ⟨rfl, rfl⟩
          go_wp2_with fail
          refine (H_l.out _).mono ?_
          rintro e w2 ⟨rfl, rfl⟩
          go_wp2_with fail
          refine (H_l.out _).mono ?_
          rintro e w2 ⟨rfl, rfl⟩
          by_cases zlw : lw = 0
          case neg =>
            have qlw : (lw != 0) = true := by simpa using zlw
            go_wp2_with fail
            go_ret
            exact ⟨ret_bool (by rw [HE.out]; simp [fitP, zlw] <;> (intros; omega)), HB.out⟩
          subst zlw
          go_wp2_with fail
          refine (H_c.out _).mono ?_
          rintro e w2 ⟨rfl, rfl⟩
          go_wp2_with fail
          refine (H_c.out _).mono ?_
          rintro e w2 ⟨rfl, rfl⟩
          by_cases zco : co = 0
          case neg =>
            have qco : (co != 0) = true := by simpa using zco
            go_wp2_with fail
            go_ret
            exact ⟨ret_bool (by rw [HE.out]; simp [fitP, zco] <;> (intros; omega)), HB.out⟩
          subst zco
          go_wp2_with fail
          refine (H_k.out _).mono ?_
          rintro e w2 ⟨rfl, rfl⟩
          by_cases zti : 0 ≤ ti
          case neg =>
            go_wp2_with fail
            go_ret
            exact ⟨ret_bool (by rw [HE.out]; simp [fitP, zti] <;> (intros; omega)), HB.out⟩
          have qti : ¬ ti < 0 := by omega
          by_cases ztn : tn ≤ 8
          case neg =>
            have qtn : (8 : Int) < (tn : Int) := by omega
            have qtn2 : ¬ (tn : Int) ≤ 8 := by omega
            go_wp2_with fail
            go_ret
            exact ⟨ret_bool (by rw [HE.out]; simp [fitP, qtn2] <;> (intros; omega)), HB.out⟩
          have qtn : ¬ (8 : Int) < (tn : Int) := by omega
          go_wp2_with fail
          refine (H_k.out _).mono ?_
          rintro e w2 ⟨rfl, rfl⟩
          go_wp2_with fail
          refine (H_o.out _).mono ?_
          rintro e w2 ⟨rfl, rfl⟩
          go_wp2_with fail
          refine (H_o.out _).mono ?_
          rintro e w2 ⟨rfl, rfl⟩
          by_cases zon : on = 0
          · have zck : ck = 0 := HCN.out zon
            subst zon zck
            go_wp2_with fail
            go_ret
            exact ⟨ret_bool (by rw [HE.out]; simp [fitP, zti, ztn, HTI.out] <;> (intros; omega)), HB.out⟩
          · have qon : (((on : Nat) : Int) == 0) = false := by simp; omega
            have qon2 : ¬ (on : Int) = 0 := by omega
            go_wp2_with fail
            go_ret
            exact ⟨ret_bool (by rw [HE.out]; simp [fitP, qon2, zon] <;> (intros; omega)), HB.out⟩
end Go.Proofs.YtmbonngjkgcijaaGreatDoor
