/- trie, the document's own Build (gentrke.py wrote it). -/
import Derived.Test.YtpploljennbpdaaDoorZTrkD
import Derived.Deep.QuietTactic
import Derived.BigQuiet
set_option linter.unusedSimpArgs false
set_option linter.unusedVariables false
set_option linter.unnecessarySimpa false
namespace Go.Proofs.YtpploljennbpdaaDoor
open Go.RowKit Go.Shelf

def longK (L : List Pth) (k : Nat) : Bool := decide (8 < L.length) || (L.take k).any fun p => !shortB p
theorem longK_snoc {L : List Pth} {k : Nat} {p : Pth} (hx : L[k]? = some p) : longK L (k + 1) = (longK L k || !shortB p) := by
  unfold longK
  rw [List.take_add_one, hx, List.any_append, Bool.or_assoc]
  simp
theorem longK_all (L : List Pth) : longK L L.length = false ↔ ¬ 8 < L.length ∧ L.all shortB = true := by
  unfold longK
  rw [List.take_length, Bool.or_eq_false_iff, decide_eq_false_iff_not, List.any_eq_false, List.all_eq_true]
  simp
theorem longK_yes {L : List Pth} (h : longK L L.length = true) : 8 < L.length ∨ L.all shortB = false := by
  by_cases h8 : 8 < L.length
  · exact .inl h8
  · right
    cases ha : L.all shortB with
    | false => rfl
    | true => rw [(longK_all L).2 ⟨h8, ha⟩] at h; cases h
/-- No path ahead of k is a beginning of another one. -/
def apartK (L : List Pth) (k : Nat) : Prop := ∀ (i j : Nat) (p q : Pth), i < k → L[i]? = some p → L[j]? = some q → i ≠ j → ¬ p <+: q
theorem not_good {L : List Pth} (h1 : L.all filledB = true) (h3 : L.all shortB = true) (h0 : L ≠ []) {i j : Nat} {p q : Pth} (hi : L[i]? = some p) (hj : L[j]? = some q) (hij : i ≠ j) (h : p <+: q) : ¬ goodP L := fun hg => ((good_iff (all_short h3) (all_filled h1) h0).1 hg).1 i j p q hi hj hij h
/-- The cell of the answer, before and behind the store. -/
theorem told_all {w W : World} (hres : W.heap[w.heap.size]? = some (.cells #[.slice none 0 0] 32 (0, 0))) (hb : Below w.heap.size w W) (u : Value) : (W.setCell ⟨w.heap.size, 0, none⟩ u).cell? ⟨w.heap.size, 0, none⟩ = some u ∧ Below w.heap.size w (W.setCell ⟨w.heap.size, 0, none⟩ u) ∧ W.cell? ⟨w.heap.size, 0, none⟩ = some (.slice none 0 0) ∧ W.frozen? ⟨w.heap.size, 0, none⟩ = false :=
  ⟨cell_of (told_cell hres u) 0, (told_below hres hb u).1, cell_of hres 0, free0 hres 0⟩
theorem nodup_not {p : List Int} {j k : Nat} {x : Int} (hj : p[j]? = some x) (hk : p[k]? = some x) (hjk : j < k) : simpleB p = false := by
  unfold simpleB
  refine decide_eq_false (fun h => ?_)
  obtain ⟨a1, a2⟩ := List.getElem?_eq_some_iff.1 hj
  obtain ⟨b1, b2⟩ := List.getElem?_eq_some_iff.1 hk
  exact (List.pairwise_iff_getElem.1 h) j k a1 b1 hjk (a2.trans b2.symm)
set_option maxRecDepth 100000 in
set_option maxHeartbeats 8000000 in
theorem RBuild_any {w : World} {v : Value} {L : List Pth} (h : PsIs w v L) (hL : L.length ≤ 100) (hl : ∀ p ∈ L, p.length ≤ 100) : Calls Tryd.prog 8 #[v] w (RBldP L w) := by
  obtain ⟨A, cap, rfl, hc1, hc2⟩ := h.form
  unfold maxLen at hc2
  have hLI : (L.length : Int) ≤ 100 := by omega
  have hb0 := below_new (w := w) (.cells #[.slice none 0 0] 32)
  have hres0 := alloc_at w (.cells #[.slice none 0 0] 32)
  obtain ⟨w0, hw0⟩ : ∃ w0, w0 = w.alloc (.cells #[.slice none 0 0] 32) := ⟨_, rfl⟩
  rw [← hw0] at hb0 hres0
  have HW0 := Lib.hid hw0
  have HB0 := Lib.hid hb0
  have HR0 := Lib.hid hres0
  have HH := Lib.hid (h.below hb0)
  have HHW := Lib.hid h
  have HLL := Lib.hid hl
  have HT0 := Lib.hid (told_all hres0 hb0 (.slice none 0 0))
  obtain ⟨b0, hb08⟩ : ∃ b, decide ((8 : Int) < (L.length : Int)) = b := ⟨_, rfl⟩
  have hb08' : decide (8 < L.length) = b0 := by rw [← hb08, decide_eq_decide]; omega
  have HB8 := Lib.hid (And.intro hb08 hb08')
  clear h hb0 hres0 hw0 hl hb08 hb08'
  by_cases hL0 : L = []
  · subst hL0
    have HC : Hid (bcode [] = 2) := Lib.hid rb_empty
    go_enter Tryd.func8, Tryd.ntmps8
    go_wp2_with fail
    rw [← HW0.out]
    have k1 := cell_of HR0.out 0
    refine bodyPost_ret (v := .tuple #[.agg #[.slice none 0 0], .int .i64 2]) (by simp [results, Tryd.results8, go_sem, k1]) rfl (RBldP.bad HC.out (by decide) HB0.out)
  have hz : ((L.length : Int) == 0) = false := by rw [beq_eq_false_iff_ne]; intro e; exact hL0 (List.eq_nil_of_length_eq_zero (by omega))
  have H0 := Lib.hid hL0
  clear hL0
  go_enter Tryd.func8, Tryd.ntmps8
  go_wp2_with fail
  rw [← HW0.out]
  go_loopw [29] (fun iv wr => ∃ k : Nat, k ≤ L.length ∧ iv = .int .i64 k ∧ w0 = wr ∧ (L.take k).all filledB = true) (fun iv _ => L.length - (intOf iv).toNat)
  case atStart => exact ⟨0, Nat.zero_le _, rfl, rfl, rfl⟩
  case round =>
    obtain ⟨k, hk, rfl, rfl, hall⟩ := hrel
    have HALL := Lib.hid hall
    by_cases hlt : k < L.length
    · have hx : L[k]? = some L[k] := List.getElem?_eq_getElem hlt
      generalize L[k] = p at hx
      obtain ⟨a, pv, rfl, _, kc, hps⟩ := HH.out.at hx
      obtain ⟨pA, pcap, rfl, hp1, hp2⟩ := hps.form
      unfold maxLen at hp2
      have hkI : (k : Int) < (L.length : Int) := by omega
      have HX := Lib.hid hx
      have HLT := Lib.hid hlt
      have HPS := Lib.hid hps
      have hp100 := HLL.out p (List.mem_of_getElem? hx)
      have hpI : (p.length : Int) ≤ 100 := by omega
      have HBAD : Hid (filledB p = false → bcode L = 2) := Lib.hid (fun e => rb_2 H0.out (all_not HX.out e))
      clear hk hall hlt hx hps hp100
      by_cases hp0 : p.length = 0
      · rw [hp0] at kc
        have HC : Hid (bcode L = 2) := Lib.hid (HBAD.out (by
          obtain rfl : p = [] := List.eq_nil_of_length_eq_zero hp0
          rfl))
        obtain ⟨k1, k2, k3, k4⟩ := HT0.out
        have K2 := Lib.hid k2
        have K1 := Lib.hid k1
        clear k1 k2 hp0 hp1 hpI
        go_wp2_with fail
        have k1 := K1.out
        refine bodyPost_ret (v := .tuple #[.agg #[.slice none 0 0], .int .i64 2]) (by simp [results, Tryd.results8, go_sem, k1]) rfl (RBldP.bad HC.out (by decide) K2.out)
      · have hpz : ((p.length : Int) == 0) = false := by rw [beq_eq_false_iff_ne]; omega
        have HP0 := Lib.hid hp0
        clear hp0
        go_wp2_with fail
        clear hpz
        go_loopw [39] (fun jv wr => ∃ j : Nat, j ≤ p.length ∧ jv = .int .i64 j ∧ w0 = wr ∧ ∀ x ∈ p.take j, 0 ≤ x ∧ x ≤ 255) (fun jv _ => p.length - (intOf jv).toNat)
        case atStart => exact ⟨0, Nat.zero_le _, rfl, rfl, by simp⟩
        case round =>
          obtain ⟨j, hj, rfl, rfl, hok⟩ := hrel
          have HOK := Lib.hid hok
          by_cases hjl : j < p.length
          · have hy : p[j]? = some p[j] := List.getElem?_eq_getElem hjl
            have HTK : Hid (p.take (j + 1) = p.take j ++ [p[j]]) := Lib.hid (List.take_succ_eq_append_getElem hjl)
            generalize p[j] = x at hy HTK
            obtain ⟨b, rfl, _, ky⟩ := HPS.out.at hy
            have hjI : (j : Int) < (p.length : Int) := by omega
            have HJL := Lib.hid hjl
            have HMEM := Lib.hid (List.mem_of_getElem? hy)
            obtain ⟨k1, k2, k3, k4⟩ := HT0.out
            have K2 := Lib.hid k2
            have K1 := Lib.hid k1
            clear k1 k2 hj hok hjl hy
            by_cases hx0 : x < 0
            · have HC : Hid (bcode L = 2) := Lib.hid (HBAD.out (decide_eq_false (fun e => by have := (e.2 x HMEM.out).1; omega)))
              go_wp2_with fail
              have k1 := K1.out
              refine bodyPost_ret (v := .tuple #[.agg #[.slice none 0 0], .int .i64 2]) (by simp [results, Tryd.results8, go_sem, k1]) rfl (RBldP.bad HC.out (by decide) K2.out)
            · by_cases hx2 : 255 < x
              · have HC : Hid (bcode L = 2) := Lib.hid (HBAD.out (decide_eq_false (fun e => by have := (e.2 x HMEM.out).2; omega)))
                go_wp2_with fail
                have k1 := K1.out
                refine bodyPost_ret (v := .tuple #[.agg #[.slice none 0 0], .int .i64 2]) (by simp [results, Tryd.results8, go_sem, k1]) rfl (RBldP.bad HC.out (by decide) K2.out)
              · have HOK2 : Hid (∀ y ∈ p.take (j + 1), 0 ≤ y ∧ y ≤ 255) := Lib.hid (fun y hy => by
                  rw [HTK.out, List.mem_append, List.mem_singleton] at hy
                  rcases hy with hy | rfl
                  · exact HOK.out y hy
                  · omega)
                go_wp2_with fail
                clear k3 k4 hx0 hx2
                go_roundw
                case rel => exact ⟨j + 1, HJL.out, by go_num, by first | rfl | trivial, HOK2.out⟩
                case measure => have := HJL.out; simp [intOf]; omega
          · obtain rfl : j = p.length := by omega
            rw [List.take_length] at hok
            have HF : Hid ((L.take (k + 1)).all filledB = true) := Lib.hid (all_take HALL.out HX.out (decide_eq_true ⟨fun e => HP0.out (by rw [e]; rfl), hok⟩))
            have hn : ¬ (p.length : Int) < (p.length : Int) := by omega
            clear hj hok hjl
            go_wp2_with fail
            go_roundw
            case rel => exact ⟨k + 1, HLT.out, by go_num, by first | rfl | trivial, HF.out⟩
            case measure => have := HLT.out; simp [intOf]; omega
    · obtain rfl : k = L.length := by omega
      have hn : ¬ (L.length : Int) < (L.length : Int) := by omega
      rw [List.take_length] at hall
      have H1 := Lib.hid hall
      obtain ⟨hb08, hb08'⟩ := HB8.out
      clear hk hlt hall HALL
      go_wp2_with fail
      clear hb08 hb08' hz
      go_loopw [8, 57] (fun lb iv wr => ∃ k : Nat, k ≤ L.length ∧ iv = .int .i64 k ∧ lb = .bool (longK L k) ∧ w0 = wr) (fun _ iv _ => L.length - (intOf iv).toNat)
      case atStart => exact ⟨0, Nat.zero_le _, rfl, by unfold longK; rw [HB8.out.2]; simp, rfl⟩
      case round =>
        obtain ⟨k, hk, rfl, rfl, rfl⟩ := hrel
        by_cases hlt : k < L.length
        · have hx : L[k]? = some L[k] := List.getElem?_eq_getElem hlt
          generalize L[k] = p at hx
          obtain ⟨a, pv, rfl, _, kc, hps⟩ := HH.out.at hx
          obtain ⟨pA, pcap, rfl, hp1, hp2⟩ := hps.form
          unfold maxLen at hp2
          have hkI : (k : Int) < (L.length : Int) := by omega
          have HLT := Lib.hid hlt
          have hp100 := HLL.out p (List.mem_of_getElem? hx)
          have hpI : (p.length : Int) ≤ 100 := by omega
          have hsn := longK_snoc hx
          obtain ⟨c, hc⟩ : ∃ c, longK L k = c := ⟨_, rfl⟩
          rw [hc] at hsn ⊢
          obtain ⟨d, hd⟩ : ∃ d, decide ((8 : Int) < (p.length : Int)) = d := ⟨_, rfl⟩
          have hd' : decide (8 < p.length) = d := by rw [← hd, decide_eq_decide]; omega
          have hsd : (!shortB p) = d := by
            rw [← hd']
            unfold shortB
            by_cases h8 : p.length ≤ 8
            · rw [decide_eq_true h8, decide_eq_false (by omega)]; rfl
            · rw [decide_eq_false h8, decide_eq_true (by omega)]; rfl
          rw [hsd] at hsn
          have HSN := Lib.hid hsn
          clear hk hlt hx hps hp100 hsn hc hsd
          cases c with
          | true =>
            clear hd hd'
            go_wp2_with fail
            go_roundw
            case rel => exact ⟨k + 1, HLT.out, by go_num, by rw [HSN.out, Bool.true_or], by first | rfl | trivial⟩
            case measure => have := HLT.out; simp [intOf]; omega
          | false =>
            go_wp2_with fail
            clear hd hd'
            go_roundw
            case rel => exact ⟨k + 1, HLT.out, by go_num, by rw [HSN.out, Bool.false_or], by first | rfl | trivial⟩
            case measure => have := HLT.out; simp [intOf]; omega
        · obtain rfl : k = L.length := by omega
          have hn : ¬ (L.length : Int) < (L.length : Int) := by omega
          obtain ⟨c, hc⟩ : ∃ c, longK L L.length = c := ⟨_, rfl⟩
          rw [hc]
          clear hk hlt
          cases c with
          | true =>
            have HC : Hid (bcode L = 7) := Lib.hid (rb_7 H0.out H1.out (longK_yes hc))
            obtain ⟨k1, k2, k3, k4⟩ := HT0.out
            have K2 := Lib.hid k2
            have K1 := Lib.hid k1
            clear k1 k2 hc
            go_wp2_with fail
            have k1 := K1.out
            refine bodyPost_ret (v := .tuple #[.agg #[.slice none 0 0], .int .i64 7]) (by simp [results, Tryd.results8, go_sem, k1]) rfl (RBldP.bad HC.out (by decide) K2.out)
          | false =>
            obtain ⟨h2, h3⟩ := (longK_all L).1 hc
            have H2 := Lib.hid h2
            have H3 := Lib.hid h3
            clear h2 h3 hc
            have hL8 : (L.length : Int) ≤ 8 := by have := H2.out; omega
            go_wp2_with fail
            go_loopw [72] (fun iv wr => ∃ k : Nat, k ≤ L.length ∧ iv = .int .i64 k ∧ Below w0.heap.size w0 wr ∧ (L.take k).all simpleB = true ∧ apartK L k) (fun iv _ => L.length - (intOf iv).toNat)
            case atStart => exact ⟨0, Nat.zero_le _, rfl, Below.refl _ _, rfl, fun i j p q h => absurd h (Nat.not_lt_zero _)⟩
            case round =>
              obtain ⟨k, hk, rfl, hbw, hall, hap⟩ := hrel
              have HAL := Lib.hid hall
              have HAP := Lib.hid hap
              have HBW := Lib.hid hbw
              by_cases hlt : k < L.length
              · have hx : L[k]? = some L[k] := List.getElem?_eq_getElem hlt
                generalize L[k] = p at hx
                obtain ⟨a, pv, rfl, hab, kc0, hps0⟩ := HH.out.at hx
                have kc := (hbw.cell (p := a.add k) (by rw [add_block]; exact hab)).trans kc0
                obtain ⟨pA, pcap, rfl, hp1, hp2⟩ := hps0.form
                unfold maxLen at hp2
                have hkI : (k : Int) < (L.length : Int) := by omega
                have HX := Lib.hid hx
                have HLT := Lib.hid hlt
                have HPS := Lib.hid hps0
                have hp100 := HLL.out p (List.mem_of_getElem? hx)
                have hpI : (p.length : Int) ≤ 100 := by omega
                have HP1 := Lib.hid hp100
                have HBAD : Hid (simpleB p = false → bcode L = 42) := Lib.hid (fun e => rb_42 H0.out H1.out H2.out H3.out (.inl (all_not HX.out e)))
                have HRET : Hid (∀ W, Below w0.heap.size w0 W → (W.setCell ⟨w.heap.size, 0, none⟩ (.slice none 0 0)).cell? ⟨w.heap.size, 0, none⟩ = some (.slice none 0 0) ∧ Below w.heap.size w (W.setCell ⟨w.heap.size, 0, none⟩ (.slice none 0 0)) ∧ W.cell? ⟨w.heap.size, 0, none⟩ = some (.slice none 0 0) ∧ W.frozen? ⟨w.heap.size, 0, none⟩ = false) := Lib.hid (fun W hW => told_all ((hW.block _ (heap_lt HR0.out)).trans HR0.out) (HB0.out.trans (hW.mono HB0.out.size)) _)
                clear hk hbw hall hap hlt hx hab kc0 hps0 hp100
                go_wp2_with fail
                go_loopw [79] (fun mv wr => ∃ m : Nat, m ≤ p.length ∧ mv = .int .i64 m ∧ Below w0.heap.size w0 wr ∧ (p.take m).Nodup) (fun mv _ => p.length - (intOf mv).toNat)
                case atStart => exact ⟨0, Nat.zero_le _, rfl, HBW.out, by simp⟩
                case round =>
                  obtain ⟨m, hm, rfl, hbw, hnd⟩ := hrel
                  have HND := Lib.hid hnd
                  have HBM := Lib.hid hbw
                  by_cases hlt : m < p.length
                  · have hx : p[m]? = some p[m] := List.getElem?_eq_getElem hlt
                    generalize p[m] = x at hx
                    have HXM := Lib.hid hx
                    have HMLT := Lib.hid hlt
                    have hmI : (m : Int) < (p.length : Int) := by omega
                    clear hm hbw hnd hlt hx
                    go_wp2_with fail
                    go_loopw [14] (fun jv wr => ∃ j : Nat, j ≤ m ∧ jv = .int .i64 j ∧ Below w0.heap.size w0 wr ∧ x ∉ p.take j) (fun jv _ => m - (intOf jv).toNat)
                    case atStart => exact ⟨0, Nat.zero_le _, rfl, HBM.out, by simp⟩
                    case round =>
                      obtain ⟨j, hj, rfl, hbw, hno⟩ := hrel
                      have HNO := Lib.hid hno
                      have HBJ := Lib.hid hbw
                      by_cases hlt : j < m
                      · have hjp : j < p.length := Nat.lt_trans hlt HMLT.out
                        have hy : p[j]? = some p[j] := List.getElem?_eq_getElem hjp
                        have HTK : Hid (p.take (j + 1) = p.take j ++ [p[j]]) := Lib.hid (List.take_succ_eq_append_getElem hjp)
                        generalize p[j] = y at hy HTK
                        obtain ⟨b1, eb1, _, k1⟩ := (HPS.out.below hbw).at hy
                        obtain ⟨b2, eb2, _, k2⟩ := (HPS.out.below hbw).at HXM.out
                        subst eb1
                        injection eb2 with eb2
                        subst eb2
                        have hjI : (j : Int) < (m : Int) := by omega
                        have hjpI : (j : Int) < (p.length : Int) := by omega
                        have HJLT := Lib.hid hlt
                        by_cases hyx : y = x
                        · subst hyx
                          have hb : (y == y) = true := beq_self_eq_true y
                          have HC : Hid (bcode L = 42) := Lib.hid (HBAD.out (nodup_not hy HXM.out hlt))
                          have HT := Lib.hid (fun n => HRET.out (wr.drewN n) (below_drewN hbw n))
                          have t3 := (HRET.out wr hbw).2.2.1
                          have t4 := (HRET.out wr hbw).2.2.2
                          clear hj hbw hno hlt hjp hy
                          go_wp2_with fail
                          go_quiet (fail)
                          go_wp2_with fail
                          have t1 := fun n => (HT.out n).1
                          refine bodyPost_ret (v := .tuple #[.agg #[.slice none 0 0], .int .i64 42]) (by simp [results, Tryd.results8, go_sem, t1]) rfl (RBldP.bad HC.out (by decide) (HT.out _).2.1)
                        · have hb : (y == x) = false := beq_eq_false_iff_ne.2 hyx
                          have HN2 : Hid (x ∉ p.take (j + 1)) := Lib.hid (by
                            rw [HTK.out, List.mem_append, List.mem_singleton]
                            exact fun h => h.elim HNO.out (fun e => hyx e.symm))
                          clear hj hbw hno hlt hjp hy hyx
                          go_wp2_with fail
                          go_quiet (fail)
                          go_wp2_with fail
                          go_roundw
                          case rel => exact ⟨j + 1, HJLT.out, by go_num, below_drewN HBJ.out _, HN2.out⟩
                          case measure => have := HJLT.out; simp [intOf]; omega
                      · obtain rfl : j = m := by omega
                        have HN2 := Lib.hid (nodup_take HND.out HXM.out hno)
                        have hn : ¬ (j : Int) < (j : Int) := by omega
                        clear hj hbw hno hlt
                        go_wp2_with fail
                        go_roundw
                        case rel => exact ⟨j + 1, HMLT.out, by go_num, HBJ.out, HN2.out⟩
                        case measure => have := HMLT.out; simp [intOf]; omega
                  · obtain rfl : m = p.length := by omega
                    have hn : ¬ (p.length : Int) < (p.length : Int) := by omega
                    rw [List.take_length] at hnd
                    have HSM : Hid (simpleB p = true) := Lib.hid (decide_eq_true hnd)
                    clear hm hbw hnd hlt
                    go_wp2_with fail
                    go_loopw [100] (fun jv wr => ∃ j : Nat, j ≤ L.length ∧ jv = .int .i64 j ∧ Below w0.heap.size w0 wr ∧ ∀ (i : Nat) (q : Pth), i < j → L[i]? = some q → k ≠ i → ¬ p <+: q) (fun jv _ => L.length - (intOf jv).toNat)
                    case atStart => exact ⟨0, Nat.zero_le _, rfl, HBM.out, fun i q h => absurd h (Nat.not_lt_zero _)⟩
                    case round =>
                      obtain ⟨j, hj, rfl, hbw, hno⟩ := hrel
                      have HNO := Lib.hid hno
                      have HBJ := Lib.hid hbw
                      by_cases hlt : j < L.length
                      · have hy : L[j]? = some L[j] := List.getElem?_eq_getElem hlt
                        generalize L[j] = q at hy
                        obtain ⟨a', qv, ea, _, kq, hqs⟩ := (HH.out.below hbw).at hy
                        injection ea with ea
                        subst ea
                        have hjI : (j : Int) < (L.length : Int) := by omega
                        have HJLT := Lib.hid hlt
                        have HY := Lib.hid hy
                        by_cases hkj : k = j
                        · subst hkj
                          have hb : ((k : Int) == (k : Int)) = true := beq_self_eq_true _
                          have HN2 : Hid (∀ (i : Nat) (q : Pth), i < k + 1 → L[i]? = some q → k ≠ i → ¬ p <+: q) := Lib.hid (fun i q hi hq hne => HNO.out i q (by omega) hq hne)
                          clear hj hbw hno hlt hy hqs
                          go_wp2_with fail
                          go_roundw
                          case rel => exact ⟨k + 1, HJLT.out, by go_num, HBJ.out, HN2.out⟩
                          case measure => have := HJLT.out; simp [intOf]; omega
                        · have hb : ((k : Int) == (j : Int)) = false := by rw [beq_eq_false_iff_ne]; omega
                          have hb2 : ¬ (k : Int) = (j : Int) := by omega
                          have hb3 : ((k : Int) != (j : Int)) = true := by rw [bne_iff_ne]; exact hb2
                          have HKJ := Lib.hid hkj
                          have HBG := Lib.hid (Begins_any (HPS.out.below hbw) hqs (by have := HP1.out; omega) (by have := HLL.out q (List.mem_of_getElem? hy); omega))
                          obtain ⟨c, hc⟩ : ∃ c, beginsB p q = c := ⟨_, rfl⟩
                          rw [hc] at HBG
                          have HCB := Lib.hid hc
                          clear hj hbw hno hlt hy hqs hkj hc
                          go_wp2_with fail
                          refine (HBG.out).mono ?_
                          rintro e w5 ⟨rfl, hb5⟩
                          have hbw5 := HBJ.out.trans (hb5.mono HBJ.out.size)
                          have HB5 := Lib.hid hbw5
                          cases c with
                          | true =>
                            have HC : Hid (bcode L = 42) := Lib.hid (rb_42 H0.out H1.out H2.out H3.out (.inr (not_good H1.out H3.out H0.out HX.out HY.out HKJ.out (of_decide_eq_true HCB.out))))
                            obtain ⟨t1, t2, t3, t4⟩ := HRET.out w5 hbw5
                            have T1 := Lib.hid t1
                            have T2 := Lib.hid t2
                            clear hb5 hbw5 t1 t2 kq
                            go_wp2_with fail
                            have t1 := T1.out
                            refine bodyPost_ret (v := .tuple #[.agg #[.slice none 0 0], .int .i64 42]) (by simp [results, Tryd.results8, go_sem, t1]) rfl (RBldP.bad HC.out (by decide) T2.out)
                          | false =>
                            have HN2 : Hid (∀ (i : Nat) (q : Pth), i < j + 1 → L[i]? = some q → k ≠ i → ¬ p <+: q) := Lib.hid (fun i q' hi hq hne => by
                              by_cases hij : i < j
                              · exact HNO.out i q' hij hq hne
                              · obtain rfl : i = j := by omega
                                have : q = q' := Option.some.inj (HY.out.symm.trans hq)
                                subst this
                                exact of_decide_eq_false HCB.out)
                            clear hb5 hbw5 kq
                            go_wp2_with fail
                            go_roundw
                            case rel => exact ⟨j + 1, HJLT.out, by go_num, HB5.out, HN2.out⟩
                            case measure => have := HJLT.out; simp [intOf]; omega
                      · obtain rfl : j = L.length := by omega
                        have hn2 : ¬ (L.length : Int) < (L.length : Int) := by omega
                        have HA2 := Lib.hid (all_take HAL.out HX.out HSM.out)
                        have HP2 : Hid (apartK L (k + 1)) := Lib.hid (fun i j p' q hi hp hq hij => by
                          by_cases hik : i < k
                          · exact HAP.out i j p' q hik hp hq hij
                          · obtain rfl : i = k := by omega
                            have : p = p' := Option.some.inj (HX.out.symm.trans hp)
                            subst this
                            exact HNO.out j q (List.getElem?_eq_some_iff.1 hq).1 hq hij)
                        clear hj hbw hno hlt
                        go_wp2_with fail
                        go_roundw
                        case rel => exact ⟨k + 1, HLT.out, by go_num, HBJ.out, HA2.out, HP2.out⟩
                        case measure => have := HLT.out; simp [intOf]; omega
              · obtain rfl : k = L.length := by omega
                have hn3 : ¬ (L.length : Int) < (L.length : Int) := by omega
                rw [List.take_length] at hall
                have H4 := Lib.hid hall
                have HR1 := Lib.hid ((hbw.block _ (heap_lt HR0.out)).trans HR0.out)
                have HB1 := Lib.hid (HB0.out.trans (hbw.mono HB0.out.size))
                clear hk hlt hall hap hbw
                go_wp2_with fail
                have h80 := all_short H3.out
                obtain ⟨w4, hw4, hg4⟩ := rgrow_start HB1.out HR1.out
                obtain ⟨z1, hz1⟩ : ∃ z, z = wr.heap.size + 1 + 1 := ⟨_, rfl⟩
                rw [← hz1] at hg4
                have HW4 := Lib.hid hw4
                have HG4 := Lib.hid hg4
                have HZ1 := Lib.hid hz1
                have H8 := Lib.hid h80
                have HTK : Hid (∀ k, TreeP (treeP (L.take k)) ∧ (treeP (L.take k)).length ≤ 100) := Lib.hid (fun k => ⟨tree_ok _ (take_short h80 k), by
                  have h1 := tree_len (L.take k) (take_short h80 k)
                  have h2 : (L.take k).length ≤ 8 := by rw [List.length_take]; have := H2.out; omega
                  omega⟩)
                clear hw4 hg4 hz1 h80
                rw [← HW4.out, ← HZ1.out]
                go_loopw [121] (fun iv wr => ∃ (k : Nat) (rv : Value) (vs : List Value), k ≤ L.length ∧ iv = .int .i64 k ∧ RGrow w z1 rv vs (treeP (L.take k)) wr) (fun iv _ => L.length - (intOf iv).toNat)
                case atStart => exact ⟨0, _, _, Nat.zero_le _, rfl, HG4.out⟩
                case round =>
                  obtain ⟨k, rv, vs, hk, rfl, hg⟩ := hrel
                  have HG := Lib.hid hg
                  by_cases hlt : k < L.length
                  · have hx : L[k]? = some L[k] := List.getElem?_eq_getElem hlt
                    generalize L[k] = p at hx
                    obtain ⟨a, pv, rfl, hab, kc0, hps0⟩ := HHW.out.at hx
                    have kc := (hg.below.cell (p := a.add k) (by rw [add_block]; exact hab)).trans kc0
                    obtain ⟨pA, pcap, rfl, hp1, hp2⟩ := hps0.form
                    unfold maxLen at hp2
                    have hkI : (k : Int) < (L.length : Int) := by omega
                    have HX := Lib.hid hx
                    have HLT := Lib.hid hlt
                    have HPS := Lib.hid hps0
                    have hp8 := H8.out p (List.mem_of_getElem? hx)
                    have hpI : (p.length : Int) ≤ 8 := by omega
                    have HP8 := Lib.hid hp8
                    have HTN : Hid (∀ j, j ≤ p.length → TreeP (addN (treeP (L.take k)) p j) ∧ (addN (treeP (L.take k)) p j).length ≤ 900) := Lib.hid (fun j hj => ⟨(addN_ok (HTK.out k).1 hp8 j hj).1, by have := addN_len (treeP (L.take k)) p j; have := (HTK.out k).2; omega⟩)
                    clear hk hg hlt hx hab kc0 hps0 hp8
                    go_wp2_with fail
                    go_loopw [20] (fun jv wr => ∃ (j : Nat) (rv : Value) (vs : List Value), j ≤ p.length ∧ jv = .int .i64 ((j : Int) + 1) ∧ RGrow w z1 rv vs (addN (treeP (L.take k)) p j) wr) (fun jv _ => p.length + 1 - (intOf jv).toNat)
                    case atStart => exact ⟨0, rv, vs, Nat.zero_le _, rfl, HG.out⟩
                    case round =>
                      obtain ⟨j, rv, vs, hj, rfl, hg⟩ := hrel
                      obtain ⟨hTN, hlN⟩ := HTN.out j hj
                      by_cases hlt : j < p.length
                      · have hle : (j : Int) + 1 ≤ (p.length : Int) := by omega
                        have hjc : j + 1 ≤ pcap := by omega
                        obtain ⟨P, hP⟩ : ∃ P, addN (treeP (L.take k)) p j = P := ⟨_, rfl⟩
                        obtain ⟨q, hq⟩ : ∃ q, p.take (j + 1) = q := ⟨_, rfl⟩
                        have hnx : addN (treeP (L.take k)) p (j + 1) = addK P q := by rw [← hP, ← hq]; rfl
                        rw [hP] at hg hTN hlN
                        have hsq : SIs w (.slice pA (j + 1) pcap) q := by rw [← hq]; exact HPS.out.take (by omega)
                        obtain ⟨rA, rn, rc, rfl⟩ : ∃ A n c, rv = .slice A n c := by
                          obtain ⟨A, c, e, _⟩ := hg.row.form
                          exact ⟨A, _, c, e⟩
                        have HF : Hid (∀ W, Below wr.heap.size wr W → Calls Tryd.prog 29 #[.agg #[.slice rA rn rc], .slice pA (j + 1) pcap] W fun e w' => e = .returned (.int .i64 (findI P q)) ∧ Below W.heap.size W w') := Lib.hid (fun W hW => Find_any ((hg.on hW).is hTN hlN) (hsq.below (hg.below.trans (hW.mono hg.below.size))) (by rw [← hq, List.length_take]; have := HP8.out; omega))
                        have HG := Lib.hid hg
                        have HLT := Lib.hid hlt
                        have HNX := Lib.hid hnx
                        have HLN := Lib.hid hlN
                        have HSQ := Lib.hid hsq
                        have HS := Lib.hid (cell_of hg.head 0)
                        have hwr : IntKind.i64.wrap ((j : Int) + 1 + 1) = (j : Int) + 1 + 1 := IntWalk.i64_in _ (by omega)
                        clear hj hg hTN hlN hlt hP hq hnx hsq
                        go_wp2_with fail
                        refine wp_region_held_drew (S := fun W => W.cell? ⟨z1, 0, none⟩ = some (.slice rA rn rc)) (by kernel_rfl) HS.out (fun hHeld => ?_)
                        have htn : ((j : Int) + 1).toNat = j + 1 := by omega
                        refine wpAnyH_take (i := 0) (oi := { dst := some 131, op := Op.load 32 (Operand.tmp 17), type := 32, pos := "ref.go:154", after := #[], guard := none }) (v := ?vv1) rfl (by kernel_rfl) (by kernel_rfl) (by kernel_rfl) (fun _ _ _ h => h) ?hy1 (by assumption) ?rest1
                        case hy1 => (refine Or.inl ⟨by rfl, ?_⟩; intro W hSw; (try dsimp only at hSw); go_simp; (try with_reducible rfl))
                        try simp only [Act.put, List.setIfInBounds_toArray, List.set_cons_zero, List.set_cons_succ]
                        refine wpAnyH_take (i := 1) (oi := { dst := some 132, op := Op.move (Operand.tmp 19), type := 24, pos := "ref.go:154", after := #[], guard := none }) (v := ?vv2) rfl (by kernel_rfl) (by kernel_rfl) (by kernel_rfl) (fun _ _ _ h => h) ?hy2 (by assumption) ?rest2
                        case hy2 => (refine Or.inl ⟨by rfl, ?_⟩; intro W hSw; (try dsimp only at hSw); go_simp; (try with_reducible rfl))
                        try simp only [Act.put, List.setIfInBounds_toArray, List.set_cons_zero, List.set_cons_succ]
                        refine wpAnyH_take (i := 2) (oi := { dst := some 133, op := Op.move (Operand.tmp 20), type := 3, pos := "ref.go:154", after := #[], guard := none }) (v := ?vv3) rfl (by kernel_rfl) (by kernel_rfl) (by kernel_rfl) (fun _ _ _ h => h) ?hy3 (by assumption) ?rest3
                        case hy3 => (refine Or.inl ⟨by rfl, ?_⟩; intro W hSw; (try dsimp only at hSw); go_simp; (try with_reducible rfl))
                        try simp only [Act.put, List.setIfInBounds_toArray, List.set_cons_zero, List.set_cons_succ]
                        refine wpAnyH_take (i := 3) (oi := { dst := some 134, op := Op.slice 24 (Operand.tmp 132) none (some (Operand.tmp 133)) none, type := 24, pos := "ref.go:154", after := #[{ on := 1, ground := Ground.data }, { on := 2, ground := Ground.data }], guard := none }) (v := (.slice pA (j + 1) pcap)) rfl (by kernel_rfl) (by kernel_rfl) (by kernel_rfl) (fun _ _ _ h => h) ?hy4 (by assumption) ?rest4
                        case hy4 => ((refine Or.inl ⟨by rfl, ?_⟩; intro W hSw; (try dsimp only at hSw); go_simp; (first | done | with_reducible rfl | exact fun h => absurd (h (by omega)) (by omega))))
                        try simp only [Act.put, List.setIfInBounds_toArray, List.set_cons_zero, List.set_cons_succ]
                        refine wpAnyH_ready (rs := [4]) (by kernel_rfl) (by simp) ?_
                        refine AllReadyH.cons (o := { dst := some 135, op := Op.call { callee := Callee.value (Operand.func 29), args := #[Operand.tmp 131, Operand.tmp 134], argTypes := #[32, 24] }, type := 3, pos := "ref.go:154", after := #[{ on := 0, ground := Ground.data }, { on := 3, ground := Ground.data }], guard := none }) rfl (fun K hK => ?step5) ?more5
                        case more5 => exact AllReadyH.nil
                        ((go_simp; go_at_call 29; refine (HF.out _ (below_drew (Below.refl _ wr))).mono ?_; rintro e w5 ⟨rfl, hb5⟩; go_wp2_with fail))
                        refine hK.out _ _ ?hS5 (fun hHeld => ?rr5)
                        case hS5 => (exact cell_of ((HG.out.on (below_of_drew hb5)).head) 0)
                        clear hK K
                        try simp only [Act.put, List.setIfInBounds_toArray, List.set_cons_zero, List.set_cons_succ]
                        have hg5 := HG.out.on (below_of_drew hb5)
                        by_cases hin : q ∈ P
                        · have hfi : findI P q = (idxP P q : Int) := by unfold findI; rw [if_pos hin]
                          rw [hfi]
                          have HN2 : Hid (addK P q = P) := Lib.hid (by unfold addK; rw [if_pos hin])
                          have hneg : ¬ ((idxP P q : Nat) : Int) < 0 := by omega
                          obtain ⟨ix, hix⟩ : ∃ ix, idxP P q = ix := ⟨_, rfl⟩
                          rw [hix] at hneg ⊢
                          refine wpAnyH_take (i := 5) (oi := { dst := some 136, op := Op.binOp BinOp.lss 3 (Operand.tmp 135) (Operand.const (Value.int IntKind.i64 0)) 3, type := 4, pos := "ref.go:154", after := #[{ on := 4, ground := Ground.data }], guard := none }) (v := (.bool false)) rfl (by kernel_rfl) (by kernel_rfl) (by kernel_rfl) (fun _ _ _ h => h) ?hy6 (by assumption) ?rest6
                          case hy6 => ((refine Or.inl ⟨by rfl, ?_⟩; intro W hSw; (try dsimp only at hSw); go_simp; (first | done | with_reducible rfl | omega | (refine congrArg Value.bool ?_; first | exact decide_eq_false (by omega) | simp_all))))
                          try simp only [Act.put, List.setIfInBounds_toArray, List.set_cons_zero, List.set_cons_succ]
                          refine wpAnyH_done (by kernel_rfl) ?_ _
                          have HG5 := Lib.hid hg5
                          clear hHeld hb5 hg5 hin hfi hix hneg HS
                          go_wp2_with fail
                          go_roundw
                          case rel => exact ⟨j + 1, _, vs, HLT.out, by go_num, by rw [HNX.out, HN2.out]; exact HG5.out⟩
                          case measure => have := HLT.out; simp [intOf]; omega
                        · have hfi : findI P q = -1 := by unfold findI; rw [if_neg hin]
                          rw [hfi]
                          have HN2 : Hid (addK P q = P ++ [q]) := Lib.hid (by unfold addK; rw [if_neg hin])
                          refine wpAnyH_take (i := 5) (oi := { dst := some 136, op := Op.binOp BinOp.lss 3 (Operand.tmp 135) (Operand.const (Value.int IntKind.i64 0)) 3, type := 4, pos := "ref.go:154", after := #[{ on := 4, ground := Ground.data }], guard := none }) (v := (.bool true)) rfl (by kernel_rfl) (by kernel_rfl) (by kernel_rfl) (fun _ _ _ h => h) ?hy7 (by assumption) ?rest7
                          case hy7 => ((refine Or.inl ⟨by rfl, ?_⟩; intro W hSw; (try dsimp only at hSw); go_simp; (first | done | with_reducible rfl | simp)))
                          try simp only [Act.put, List.setIfInBounds_toArray, List.set_cons_zero, List.set_cons_succ]
                          refine wpAnyH_done (by kernel_rfl) ?_ _
                          have HG5 := Lib.hid hg5
                          clear hHeld hb5 hg5 hin hfi HS
                          go_wp2_with fail
                          have hrd : RowIs w5.drew 1 (.slice rA rn rc) vs.length vs := HG5.out.row.touch ((Touch.refl (fun _ => False) w5).drew) (fun _ _ e => e)
                          obtain ⟨v', w6, hrun, hr6, ht6, ho6⟩ := app_sl (u := .slice pA (j + 1) pcap) rfl 22 hrd (by have := HG5.out.len; have := HLN.out; omega)
                          obtain ⟨nA, nn, nc, rfl⟩ : ∃ A n c, v' = .slice A n c := by
                            obtain ⟨A, c, e, _⟩ := hr6.form
                            exact ⟨A, _, c, e⟩
                          have hpush := HG5.out.push HSQ.out hr6 (((Touch.refl (fun k => (Value.slice rA rn rc).ownBlock = some k) w5).drew).trans ht6 (fun k _ e => e)) ho6
                          rw [← HN2.out, ← HNX.out] at hpush
                          have HPU := Lib.hid hpush
                          have hh6 := (ht6.block _ (heap_lt HG5.out.head) (fun e => (HG5.out.own _ e).2 rfl)).trans HG5.out.head
                          have q5 := cell_of HG5.out.head 0
                          have q5d : (w5.alloc (.cells #[.slice pA (j + 1) pcap] 24)).drew.cell? ⟨z1, 0, none⟩ = some (.slice rA rn rc) := cell_of (((below_new (w := w5) (.cells #[.slice pA (j + 1) pcap] 24)).block _ (heap_lt HG5.out.head)).trans HG5.out.head) 0
                          have q6 := cell_of hh6 0
                          have f6 := free0 hh6 0
                          have HRUN := Lib.hid hrun
                          clear hrd hr6 ht6 ho6 hpush hh6 hrun
                          refine wp_region_held_drew (S := fun W => True) (by kernel_rfl) trivial (fun hHeld => ?_)
                          refine wpAnyH_take (i := 0) (oi := { dst := some 137, op := Op.fieldAddr 32 (Operand.tmp 17) 0, type := 0, pos := "ref.go:155", after := #[], guard := none }) (v := ?vv8) rfl (by kernel_rfl) (by kernel_rfl) (by kernel_rfl) (fun _ _ _ h => h) ?hy8 (by assumption) ?rest8
                          case hy8 => (refine Or.inl ⟨by rfl, ?_⟩; intro W hSw; (try dsimp only at hSw); go_simp; (try with_reducible rfl))
                          try simp only [Act.put, List.setIfInBounds_toArray, List.set_cons_zero, List.set_cons_succ]
                          refine wpAnyH_take (i := 2) (oi := { dst := some 139, op := Op.move (Operand.tmp 19), type := 24, pos := "ref.go:155", after := #[], guard := none }) (v := ?vv9) rfl (by kernel_rfl) (by kernel_rfl) (by kernel_rfl) (fun _ _ _ h => h) ?hy9 (by assumption) ?rest9
                          case hy9 => (refine Or.inl ⟨by rfl, ?_⟩; intro W hSw; (try dsimp only at hSw); go_simp; (try with_reducible rfl))
                          try simp only [Act.put, List.setIfInBounds_toArray, List.set_cons_zero, List.set_cons_succ]
                          refine wpAnyH_take (i := 3) (oi := { dst := some 140, op := Op.move (Operand.tmp 20), type := 3, pos := "ref.go:155", after := #[], guard := none }) (v := ?vv10) rfl (by kernel_rfl) (by kernel_rfl) (by kernel_rfl) (fun _ _ _ h => h) ?hy10 (by assumption) ?rest10
                          case hy10 => (refine Or.inl ⟨by rfl, ?_⟩; intro W hSw; (try dsimp only at hSw); go_simp; (try with_reducible rfl))
                          try simp only [Act.put, List.setIfInBounds_toArray, List.set_cons_zero, List.set_cons_succ]
                          refine wpAnyH_take (i := 4) (oi := { dst := some 141, op := Op.slice 24 (Operand.tmp 139) none (some (Operand.tmp 140)) none, type := 24, pos := "ref.go:155", after := #[{ on := 2, ground := Ground.data }, { on := 3, ground := Ground.data }], guard := none }) (v := (.slice pA (j + 1) pcap)) rfl (by kernel_rfl) (by kernel_rfl) (by kernel_rfl) (fun _ _ _ h => h) ?hy11 (by assumption) ?rest11
                          case hy11 => ((refine Or.inl ⟨by rfl, ?_⟩; intro W hSw; (try dsimp only at hSw); go_simp; (first | done | with_reducible rfl | exact fun h => absurd (h (by omega)) (by omega))))
                          try simp only [Act.put, List.setIfInBounds_toArray, List.set_cons_zero, List.set_cons_succ]
                          refine wpAnyH_ready (rs := [1, 5]) (by kernel_rfl) (by simp) ?_
                          refine AllReadyH.cons (o := { dst := some 138, op := Op.load 22 (Operand.tmp 137), type := 22, pos := "ref.go:155", after := #[{ on := 0, ground := Ground.data }], guard := none }) rfl (fun K hK => ?step12) ?more12
                          ((go_simp))
                          refine hK.out _ _ ?hS12 (fun hHeld => ?rr12)
                          case hS12 => (exact trivial)
                          clear hK K
                          try simp only [Act.put, List.setIfInBounds_toArray, List.set_cons_zero, List.set_cons_succ]
                          · refine wpAnyH_ready (rs := [5]) (by kernel_rfl) (by simp) ?_
                            refine AllReadyH.cons (o := { dst := some 142, op := Op.buildSlice 22 1 #[(0, Operand.tmp 141)], type := 22, pos := "ref.go:155", after := #[{ on := 4, ground := Ground.data }], guard := none }) rfl (fun K hK => ?step13) ?more13
                            case more13 => exact AllReadyH.nil
                            ((go_simp))
                            refine hK.out _ _ ?hS13 (fun hHeld => ?rr13)
                            case hS13 => (exact trivial)
                            clear hK K
                            try simp only [Act.put, List.setIfInBounds_toArray, List.set_cons_zero, List.set_cons_succ]
                            refine wpAnyH_ready (rs := [6]) (by kernel_rfl) (by simp) ?_
                            refine AllReadyH.cons (o := { dst := some 143, op := Op.call { callee := Callee.builtin Builtin.append, args := #[Operand.tmp 138, Operand.tmp 142], argTypes := #[22, 22] }, type := 22, pos := "ref.go:155", after := #[{ on := 1, ground := Ground.data }, { on := 5, ground := Ground.data }], guard := none }) rfl (fun K hK => ?step14) ?more14
                            case more14 => exact AllReadyH.nil
                            (refine step_app_run HRUN.out rfl (.tmp 138) (.tmp 142) rfl rfl rfl ?_)
                            refine hK.out _ _ ?hS14 (fun hHeld => ?rr14)
                            case hS14 => (exact trivial)
                            clear hK K
                            try simp only [Act.put, List.setIfInBounds_toArray, List.set_cons_zero, List.set_cons_succ]
                            refine wpAnyH_take (i := 7) (oi := { dst := some 144, op := Op.fieldAddr 32 (Operand.tmp 17) 0, type := 0, pos := "ref.go:155", after := #[{ on := 0, ground := Ground.phase }, { on := 1, ground := Ground.phase }, { on := 2, ground := Ground.phase }, { on := 3, ground := Ground.phase }, { on := 4, ground := Ground.phase }, { on := 5, ground := Ground.phase }, { on := 6, ground := Ground.phase }], guard := none }) (v := ?vv15) rfl (by kernel_rfl) (by kernel_rfl) (by kernel_rfl) (fun _ _ _ h => h) ?hy15 (by assumption) ?rest15
                            case hy15 => (refine Or.inl ⟨by rfl, ?_⟩; intro W hSw; (try dsimp only at hSw); go_simp; (try with_reducible rfl))
                            try simp only [Act.put, List.setIfInBounds_toArray, List.set_cons_zero, List.set_cons_succ]
                            refine wpAnyH_ready (rs := [8]) (by kernel_rfl) (by simp) ?_
                            refine AllReadyH.cons (o := { dst := none, op := Op.store 22 (Operand.tmp 144) (Operand.tmp 143), type := 0, pos := "ref.go:155", after := #[{ on := 7, ground := Ground.data }, { on := 6, ground := Ground.data }, { on := 6, ground := Ground.chain }, { on := 0, ground := Ground.phase }, { on := 1, ground := Ground.phase }, { on := 2, ground := Ground.phase }, { on := 3, ground := Ground.phase }, { on := 4, ground := Ground.phase }, { on := 5, ground := Ground.phase }, { on := 6, ground := Ground.phase }], guard := none }) rfl (fun K hK => ?step16) ?more16
                            case more16 => exact AllReadyH.nil
                            ((go_simp))
                            refine hK.out _ _ ?hS16 (fun hHeld => ?rr16)
                            case hS16 => (exact trivial)
                            clear hK K
                            try simp only [Act.put, List.setIfInBounds_toArray, List.set_cons_zero, List.set_cons_succ]
                            refine wpAnyH_done (by kernel_rfl) ?_ _
                            clear hHeld q5 q5d q6 f6
                            go_wp2_with fail
                            go_roundw
                            case rel => exact ⟨j + 1, _, _, HLT.out, by go_num, HPU.out⟩
                            case measure => have := HLT.out; simp [intOf]; omega
                          · refine AllReadyH.cons (o := { dst := some 142, op := Op.buildSlice 22 1 #[(0, Operand.tmp 141)], type := 22, pos := "ref.go:155", after := #[{ on := 4, ground := Ground.data }], guard := none }) rfl (fun K hK => ?step17) ?more17
                            case more17 => exact AllReadyH.nil
                            ((go_simp))
                            refine hK.out _ _ ?hS17 (fun hHeld => ?rr17)
                            case hS17 => (exact trivial)
                            clear hK K
                            try simp only [Act.put, List.setIfInBounds_toArray, List.set_cons_zero, List.set_cons_succ]
                            refine wpAnyH_ready (rs := [1]) (by kernel_rfl) (by simp) ?_
                            refine AllReadyH.cons (o := { dst := some 138, op := Op.load 22 (Operand.tmp 137), type := 22, pos := "ref.go:155", after := #[{ on := 0, ground := Ground.data }], guard := none }) rfl (fun K hK => ?step18) ?more18
                            case more18 => exact AllReadyH.nil
                            ((go_simp))
                            refine hK.out _ _ ?hS18 (fun hHeld => ?rr18)
                            case hS18 => (exact trivial)
                            clear hK K
                            try simp only [Act.put, List.setIfInBounds_toArray, List.set_cons_zero, List.set_cons_succ]
                            refine wpAnyH_ready (rs := [6]) (by kernel_rfl) (by simp) ?_
                            refine AllReadyH.cons (o := { dst := some 143, op := Op.call { callee := Callee.builtin Builtin.append, args := #[Operand.tmp 138, Operand.tmp 142], argTypes := #[22, 22] }, type := 22, pos := "ref.go:155", after := #[{ on := 1, ground := Ground.data }, { on := 5, ground := Ground.data }], guard := none }) rfl (fun K hK => ?step19) ?more19
                            case more19 => exact AllReadyH.nil
                            (refine step_app_run HRUN.out rfl (.tmp 138) (.tmp 142) rfl rfl rfl ?_)
                            refine hK.out _ _ ?hS19 (fun hHeld => ?rr19)
                            case hS19 => (exact trivial)
                            clear hK K
                            try simp only [Act.put, List.setIfInBounds_toArray, List.set_cons_zero, List.set_cons_succ]
                            refine wpAnyH_take (i := 7) (oi := { dst := some 144, op := Op.fieldAddr 32 (Operand.tmp 17) 0, type := 0, pos := "ref.go:155", after := #[{ on := 0, ground := Ground.phase }, { on := 1, ground := Ground.phase }, { on := 2, ground := Ground.phase }, { on := 3, ground := Ground.phase }, { on := 4, ground := Ground.phase }, { on := 5, ground := Ground.phase }, { on := 6, ground := Ground.phase }], guard := none }) (v := ?vv20) rfl (by kernel_rfl) (by kernel_rfl) (by kernel_rfl) (fun _ _ _ h => h) ?hy20 (by assumption) ?rest20
                            case hy20 => (refine Or.inl ⟨by rfl, ?_⟩; intro W hSw; (try dsimp only at hSw); go_simp; (try with_reducible rfl))
                            try simp only [Act.put, List.setIfInBounds_toArray, List.set_cons_zero, List.set_cons_succ]
                            refine wpAnyH_ready (rs := [8]) (by kernel_rfl) (by simp) ?_
                            refine AllReadyH.cons (o := { dst := none, op := Op.store 22 (Operand.tmp 144) (Operand.tmp 143), type := 0, pos := "ref.go:155", after := #[{ on := 7, ground := Ground.data }, { on := 6, ground := Ground.data }, { on := 6, ground := Ground.chain }, { on := 0, ground := Ground.phase }, { on := 1, ground := Ground.phase }, { on := 2, ground := Ground.phase }, { on := 3, ground := Ground.phase }, { on := 4, ground := Ground.phase }, { on := 5, ground := Ground.phase }, { on := 6, ground := Ground.phase }], guard := none }) rfl (fun K hK => ?step21) ?more21
                            case more21 => exact AllReadyH.nil
                            ((go_simp))
                            refine hK.out _ _ ?hS21 (fun hHeld => ?rr21)
                            case hS21 => (exact trivial)
                            clear hK K
                            try simp only [Act.put, List.setIfInBounds_toArray, List.set_cons_zero, List.set_cons_succ]
                            refine wpAnyH_done (by kernel_rfl) ?_ _
                            clear hHeld q5 q5d q6 f6
                            go_wp2_with fail
                            go_roundw
                            case rel => exact ⟨j + 1, _, _, HLT.out, by go_num, HPU.out⟩
                            case measure => have := HLT.out; simp [intOf]; omega
                      · obtain rfl : j = p.length := by omega
                        have hn : ¬ (p.length : Int) + 1 ≤ (p.length : Int) := by omega
                        have HG := Lib.hid hg
                        have HT : Hid (treeP (L.take (k + 1)) = addN (treeP (L.take k)) p p.length) := Lib.hid (tree_take HX.out)
                        clear hj hlt hg hTN hlN
                        go_wp2_with fail
                        go_roundw
                        case rel => exact ⟨k + 1, rv, vs, HLT.out, by go_num, by rw [HT.out]; exact HG.out⟩
                        case measure => have := HLT.out; simp [intOf]; omega
                  · obtain rfl : k = L.length := by omega
                    have hn3 : ¬ (L.length : Int) < (L.length : Int) := by omega
                    rw [List.take_length] at hg
                    have HG := Lib.hid hg
                    have hT := (HTK.out L.length).1
                    have hTl := (HTK.out L.length).2
                    rw [List.take_length] at hT hTl
                    have hrt := hg.is hT (by omega)
                    obtain ⟨rA, rc, rfl, hr1, hr2⟩ := hrt.row.form
                    unfold maxLen at hr2
                    have HRT := Lib.hid hrt
                    have HLV := Lib.hid (RLeaves_any hrt)
                    have HT := Lib.hid hT
                    have qb := cell_of hg.head 0
                    obtain ⟨nt, hnt⟩ : ∃ nt, (treeP L).length = nt := ⟨_, rfl⟩
                    have HNT := Lib.hid hnt
                    rw [hnt] at qb HLV HG HRT hr1 hTl
                    have hntI : (nt : Int) ≤ 100 := by omega
                    obtain ⟨V, hV⟩ : ∃ V, leavesP (treeP L) = V := ⟨_, rfl⟩
                    rw [hV] at HLV
                    have HV := Lib.hid hV
                    clear hk hlt hg hT hTl hrt hnt hV
                    go_wp2_with fail
                    refine (HLV.out).mono ?_
                    rintro e w5 ⟨lv, rfl, hlr, _, hb5⟩
                    have HG5 := Lib.hid (HG.out.on hb5)
                    have HLR := Lib.hid hlr
                    obtain ⟨lA, lc, rfl, hl1, hl2, _⟩ := id hlr.form
                    unfold maxLen at hl2
                    have hVV : V.length ≤ nt := by
                      rw [← HV.out, ← HNT.out]
                      exact length_le_of_nodup _ _ (leaves_nodup HT.out) (fun m hm => ((mem_leaves HT.out).1 hm).1)
                    have hVI : (V.length : Int) ≤ 100 := by omega
                    clear hlr hb5 qb hVV
                    by_cases hVl : V.length = L.length
                    · have HVL := Lib.hid hVl
                      have hbv : ((V.length : Int) != (L.length : Int)) = false := by rw [hVl]; simp
                      clear hVl
                      go_wp2_with fail
                      clear hbv
                      go_loopw [156] (fun iv wr => ∃ i : Nat, i ≤ V.length ∧ iv = .int .i64 i ∧ Below w5.heap.size w5 wr ∧ ∀ (j m : Nat), j < i → V[j]? = some m → (treeP L)[m]? = L[j]?) (fun iv _ => V.length - (intOf iv).toNat)
                      case atStart => exact ⟨0, Nat.zero_le _, rfl, Below.refl _ _, fun j m h => absurd h (Nat.not_lt_zero _)⟩
                      case round =>
                        obtain ⟨i, hi, rfl, hbw, hno⟩ := hrel
                        have HNO := Lib.hid hno
                        have HBW := Lib.hid hbw
                        by_cases hlt : i < V.length
                        · have hx : V[i]? = some V[i] := List.getElem?_eq_getElem hlt
                          generalize V[i] = m at hx
                          have hiL : i < L.length := by rw [← HVL.out]; exact hlt
                          have hLi : L[i]? = some L[i] := List.getElem?_eq_getElem hiL
                          generalize L[i] = p at hLi
                          have hmT := ((mem_leaves HT.out).1 (by rw [HV.out]; exact List.mem_of_getElem? hx)).1
                          have hTm : (treeP L)[m]? = some (treeP L)[m] := List.getElem?_eq_getElem hmT
                          generalize (treeP L)[m] = p' at hTm
                          have hgw := HG5.out.on hbw
                          have hrw := hgw.is HT.out (by have := HNT.out; omega)
                          obtain ⟨gA, gu, egA, _, ku, hsu⟩ := hrw.row.at hTm
                          subst egA
                          obtain ⟨uA, uc, rfl, _⟩ := hsu.form
                          obtain ⟨pa, pv, epa, hpab, kc0, hps0⟩ := HHW.out.at hLi
                          subst epa
                          obtain ⟨pA, pcap, rfl, _⟩ := hps0.form
                          obtain ⟨_, _, e', _, _, _, _, hlc⟩ := (HLR.out.below hbw).form
                          injection e' with e1 e2 e3
                          subst e1 e3
                          obtain ⟨gl, rfl, kl⟩ := hlc i _ (natI_at hx)
                          have kc := (hgw.below.cell (p := pa.add i) (by rw [add_block]; exact hpab)).trans kc0
                          have qb := cell_of hgw.head 0
                          have HALL : Hid (∀ W, Below wr.heap.size wr W → W.cell? ⟨z1, 0, none⟩ = some (.slice (some gA) nt rc) ∧ W.cell? ⟨gl, i, none⟩ = some (.int .i64 (m : Int)) ∧ W.cell? (gA.add m) = some (.slice uA p'.length uc) ∧ W.cell? (pa.add i) = some (.slice pA p.length pcap)) := Lib.hid (fun W hW => by
                            obtain ⟨gA', gu', egA', _, ku', _⟩ := (hrw.below hW).row.at hTm
                            injection egA' with egA'
                            subst egA'
                            have hku := ku
                            refine ⟨(hW.cell (p := ⟨z1, 0, none⟩) (heap_lt' qb)).trans qb, (hW.cell (p := ⟨gl, i, none⟩) (heap_lt' kl)).trans kl, ?_, (hW.cell (p := pa.add i) (by rw [add_block]; have := hgw.below.size; omega)).trans kc⟩
                            obtain ⟨gA2, _, eg2, hg2, _⟩ := hrw.row.at hTm
                            injection eg2 with eg2
                            subst eg2
                            exact (hW.cell (p := gA.add m) (by rw [add_block]; exact hg2)).trans ku)
                          have HSM : Hid (∀ W, Below wr.heap.size wr W → Calls Tryd.prog 30 #[.slice uA p'.length uc, .slice pA p.length pcap] W fun e w' => e = .returned (.bool (sameB p' p)) ∧ Below W.heap.size W w') := Lib.hid (fun W hW => same_any (hsu.below hW) (hps0.below (hgw.below.trans (hW.mono hgw.below.size))) (by have := HT.out.len hTm; omega) (by have := H8.out p (List.mem_of_getElem? hLi); omega))
                          have hiI : (i : Int) < (V.length : Int) := by omega
                          have hiLI : (i : Int) < (L.length : Int) := by omega
                          have hmI : (m : Int) < (nt : Int) := by have := HNT.out; omega
                          have HILT := Lib.hid hlt
                          have HGW := Lib.hid hgw
                          have HX := Lib.hid hx
                          have HLI := Lib.hid hLi
                          have HTM := Lib.hid hTm
                          have HS := Lib.hid (HALL.out _ (below_drew (Below.refl _ wr)))
                          obtain ⟨c, hc⟩ : ∃ c, sameB p' p = c := ⟨_, rfl⟩
                          rw [hc] at HSM
                          have HCS := Lib.hid hc
                          obtain ⟨n1, hn1⟩ : ∃ n1, p'.length = n1 := ⟨_, rfl⟩
                          obtain ⟨n2, hn2⟩ : ∃ n2, p.length = n2 := ⟨_, rfl⟩
                          rw [hn1, hn2] at HALL HSM HS
                          clear hi hbw hno hlt hx hiL hLi hmT hTm hgw hrw ku hsu kc0 hps0 hlc e2 kl kc qb hpab hc hn1 hn2
                          go_wp2_with fail
                          refine wp_region_held_drew (S := fun W => W.cell? ⟨z1, 0, none⟩ = some (.slice (some gA) nt rc) ∧ W.cell? ⟨gl, i, none⟩ = some (.int .i64 (m : Int)) ∧ W.cell? (gA.add m) = some (.slice uA n1 uc) ∧ W.cell? (pa.add i) = some (.slice pA n2 pcap)) (by kernel_rfl) HS.out (fun hHeld => ?_)
                          refine wpAnyH_take (i := 0) (oi := { dst := some 159, op := Op.fieldAddr 32 (Operand.tmp 17) 0, type := 0, pos := "ref.go:164", after := #[], guard := none }) (v := ?vv22) rfl (by kernel_rfl) (by kernel_rfl) (by kernel_rfl) (fun _ _ _ h => h) ?hy22 (by assumption) ?rest22
                          case hy22 => (refine Or.inl ⟨by rfl, ?_⟩; intro W hSw; (try dsimp only at hSw); go_simp; (try with_reducible rfl))
                          try simp only [Act.put, List.setIfInBounds_toArray, List.set_cons_zero, List.set_cons_succ]
                          refine wpAnyH_take (i := 1) (oi := { dst := some 160, op := Op.load 22 (Operand.tmp 159), type := 22, pos := "ref.go:164", after := #[{ on := 0, ground := Ground.data }], guard := none }) (v := ?vv23) rfl (by kernel_rfl) (by kernel_rfl) (by kernel_rfl) (fun _ _ _ h => h) ?hy23 (by assumption) ?rest23
                          case hy23 => (refine Or.inl ⟨by rfl, ?_⟩; intro W hSw; (try dsimp only at hSw); go_simp; (try with_reducible rfl))
                          try simp only [Act.put, List.setIfInBounds_toArray, List.set_cons_zero, List.set_cons_succ]
                          refine wpAnyH_take (i := 2) (oi := { dst := some 161, op := Op.move (Operand.tmp 21), type := 24, pos := "ref.go:164", after := #[], guard := none }) (v := ?vv24) rfl (by kernel_rfl) (by kernel_rfl) (by kernel_rfl) (fun _ _ _ h => h) ?hy24 (by assumption) ?rest24
                          case hy24 => (refine Or.inl ⟨by rfl, ?_⟩; intro W hSw; (try dsimp only at hSw); go_simp; (try with_reducible rfl))
                          try simp only [Act.put, List.setIfInBounds_toArray, List.set_cons_zero, List.set_cons_succ]
                          refine wpAnyH_take (i := 3) (oi := { dst := some 162, op := Op.move (Operand.tmp 22), type := 3, pos := "ref.go:164", after := #[], guard := none }) (v := ?vv25) rfl (by kernel_rfl) (by kernel_rfl) (by kernel_rfl) (fun _ _ _ h => h) ?hy25 (by assumption) ?rest25
                          case hy25 => (refine Or.inl ⟨by rfl, ?_⟩; intro W hSw; (try dsimp only at hSw); go_simp; (try with_reducible rfl))
                          try simp only [Act.put, List.setIfInBounds_toArray, List.set_cons_zero, List.set_cons_succ]
                          refine wpAnyH_take (i := 4) (oi := { dst := some 163, op := Op.indexAddr 24 (Operand.tmp 161) (Operand.tmp 162), type := 0, pos := "ref.go:164", after := #[{ on := 2, ground := Ground.data }, { on := 3, ground := Ground.data }], guard := none }) (v := ?vv26) rfl (by kernel_rfl) (by kernel_rfl) (by kernel_rfl) (fun _ _ _ h => h) ?hy26 (by assumption) ?rest26
                          case hy26 => (refine Or.inl ⟨by rfl, ?_⟩; intro W hSw; (try dsimp only at hSw); go_simp; (try with_reducible rfl))
                          try simp only [Act.put, List.setIfInBounds_toArray, List.set_cons_zero, List.set_cons_succ]
                          refine wpAnyH_take (i := 5) (oi := { dst := some 164, op := Op.load 3 (Operand.tmp 163), type := 3, pos := "ref.go:164", after := #[{ on := 4, ground := Ground.data }], guard := none }) (v := ?vv27) rfl (by kernel_rfl) (by kernel_rfl) (by kernel_rfl) (fun _ _ _ h => h) ?hy27 (by assumption) ?rest27
                          case hy27 => (refine Or.inl ⟨by rfl, ?_⟩; intro W hSw; (try dsimp only at hSw); go_simp; (try with_reducible rfl))
                          try simp only [Act.put, List.setIfInBounds_toArray, List.set_cons_zero, List.set_cons_succ]
                          refine wpAnyH_take (i := 6) (oi := { dst := some 165, op := Op.indexAddr 22 (Operand.tmp 160) (Operand.tmp 164), type := 0, pos := "ref.go:164", after := #[{ on := 1, ground := Ground.data }, { on := 5, ground := Ground.data }], guard := none }) (v := ?vv28) rfl (by kernel_rfl) (by kernel_rfl) (by kernel_rfl) (fun _ _ _ h => h) ?hy28 (by assumption) ?rest28
                          case hy28 => (refine Or.inl ⟨by rfl, ?_⟩; intro W hSw; (try dsimp only at hSw); go_simp; (try with_reducible rfl))
                          try simp only [Act.put, List.setIfInBounds_toArray, List.set_cons_zero, List.set_cons_succ]
                          refine wpAnyH_take (i := 7) (oi := { dst := some 166, op := Op.load 24 (Operand.tmp 165), type := 24, pos := "ref.go:164", after := #[{ on := 6, ground := Ground.data }], guard := none }) (v := ?vv29) rfl (by kernel_rfl) (by kernel_rfl) (by kernel_rfl) (fun _ _ _ h => h) ?hy29 (by assumption) ?rest29
                          case hy29 => (refine Or.inl ⟨by rfl, ?_⟩; intro W hSw; (try dsimp only at hSw); go_simp; (try with_reducible rfl))
                          try simp only [Act.put, List.setIfInBounds_toArray, List.set_cons_zero, List.set_cons_succ]
                          refine wpAnyH_take (i := 8) (oi := { dst := some 167, op := Op.move (Operand.tmp 0), type := 22, pos := "ref.go:164", after := #[], guard := none }) (v := ?vv30) rfl (by kernel_rfl) (by kernel_rfl) (by kernel_rfl) (fun _ _ _ h => h) ?hy30 (by assumption) ?rest30
                          case hy30 => (refine Or.inl ⟨by rfl, ?_⟩; intro W hSw; (try dsimp only at hSw); go_simp; (try with_reducible rfl))
                          try simp only [Act.put, List.setIfInBounds_toArray, List.set_cons_zero, List.set_cons_succ]
                          refine wpAnyH_take (i := 9) (oi := { dst := some 168, op := Op.move (Operand.tmp 22), type := 3, pos := "ref.go:164", after := #[], guard := none }) (v := ?vv31) rfl (by kernel_rfl) (by kernel_rfl) (by kernel_rfl) (fun _ _ _ h => h) ?hy31 (by assumption) ?rest31
                          case hy31 => (refine Or.inl ⟨by rfl, ?_⟩; intro W hSw; (try dsimp only at hSw); go_simp; (try with_reducible rfl))
                          try simp only [Act.put, List.setIfInBounds_toArray, List.set_cons_zero, List.set_cons_succ]
                          refine wpAnyH_take (i := 10) (oi := { dst := some 169, op := Op.indexAddr 22 (Operand.tmp 167) (Operand.tmp 168), type := 0, pos := "ref.go:164", after := #[{ on := 8, ground := Ground.data }, { on := 9, ground := Ground.data }], guard := none }) (v := ?vv32) rfl (by kernel_rfl) (by kernel_rfl) (by kernel_rfl) (fun _ _ _ h => h) ?hy32 (by assumption) ?rest32
                          case hy32 => (refine Or.inl ⟨by rfl, ?_⟩; intro W hSw; (try dsimp only at hSw); go_simp; (try with_reducible rfl))
                          try simp only [Act.put, List.setIfInBounds_toArray, List.set_cons_zero, List.set_cons_succ]
                          refine wpAnyH_take (i := 11) (oi := { dst := some 170, op := Op.load 24 (Operand.tmp 169), type := 24, pos := "ref.go:164", after := #[{ on := 10, ground := Ground.data }], guard := none }) (v := ?vv33) rfl (by kernel_rfl) (by kernel_rfl) (by kernel_rfl) (fun _ _ _ h => h) ?hy33 (by assumption) ?rest33
                          case hy33 => (refine Or.inl ⟨by rfl, ?_⟩; intro W hSw; (try dsimp only at hSw); go_simp; (try with_reducible rfl))
                          try simp only [Act.put, List.setIfInBounds_toArray, List.set_cons_zero, List.set_cons_succ]
                          refine wpAnyH_ready (rs := [12]) (by kernel_rfl) (by simp) ?_
                          refine AllReadyH.cons (o := { dst := some 171, op := Op.call { callee := Callee.value (Operand.func 30), args := #[Operand.tmp 166, Operand.tmp 170], argTypes := #[24, 24] }, type := 4, pos := "ref.go:164", after := #[{ on := 7, ground := Ground.data }, { on := 11, ground := Ground.data }], guard := none }) rfl (fun K hK => ?step34) ?more34
                          case more34 => exact AllReadyH.nil
                          ((go_simp; go_at_call 30; refine (HSM.out _ (below_drew (Below.refl _ wr))).mono ?_; rintro e w6 ⟨rfl, hb6⟩; go_wp2_with fail))
                          refine hK.out _ _ ?hS34 (fun hHeld => ?rr34)
                          case hS34 => (exact HALL.out _ (below_of_drew hb6))
                          clear hK K
                          try simp only [Act.put, List.setIfInBounds_toArray, List.set_cons_zero, List.set_cons_succ]
                          refine wpAnyH_take (i := 13) (oi := { dst := some 172, op := Op.unOp UnOp.not 4 (Operand.tmp 171), type := 4, pos := "ref.go:164", after := #[{ on := 12, ground := Ground.data }], guard := none }) (v := ?vv35) rfl (by kernel_rfl) (by kernel_rfl) (by kernel_rfl) (fun _ _ _ h => h) ?hy35 (by assumption) ?rest35
                          case hy35 => (refine Or.inl ⟨by rfl, ?_⟩; intro W hSw; (try dsimp only at hSw); go_simp; (try with_reducible rfl))
                          try simp only [Act.put, List.setIfInBounds_toArray, List.set_cons_zero, List.set_cons_succ]
                          refine wpAnyH_done (by kernel_rfl) ?_ _
                          have hg6 := HGW.out.on (below_of_drew hb6)
                          have HG6 := Lib.hid hg6
                          have HB6 := Lib.hid (HBW.out.trans ((below_of_drew hb6).mono HBW.out.size))
                          clear hHeld HS hb6 HSM HALL
                          cases c with
                          | true =>
                            have HN2 : Hid (∀ (j m : Nat), j < i + 1 → V[j]? = some m → (treeP L)[m]? = L[j]?) := Lib.hid (fun j m' hj hm => by
                              by_cases hji : j < i
                              · exact HNO.out j m' hji hm
                              · obtain rfl : j = i := by omega
                                have e1 : m = m' := Option.some.inj (HX.out.symm.trans hm)
                                subst e1
                                have e2 : p' = p := of_decide_eq_true HCS.out
                                rw [HTM.out, HLI.out, e2])
                            clear hg6
                            go_wp2_with fail
                            go_roundw
                            case rel => exact ⟨i + 1, HILT.out, by go_num, HB6.out, HN2.out⟩
                            case measure => have := HILT.out; simp [intOf]; omega
                          | false =>
                            have HC : Hid (bcode L = 42) := Lib.hid (rb_42 H0.out H1.out H2.out H3.out (.inr (fun hgd => by
                              have h2 := ((good_iff (all_short H3.out) (all_filled H1.out) H0.out).1 hgd).2.2 i m (by rw [HV.out]; exact HX.out)
                              rw [HTM.out, HLI.out] at h2
                              exact of_decide_eq_false HCS.out (Option.some.inj h2))))
                            obtain ⟨t1, t2, t3, t4⟩ := told_all hg6.res hg6.below (.slice none 0 0)
                            have T1 := Lib.hid t1
                            have T2 := Lib.hid t2
                            clear t1 t2 hg6
                            go_wp2_with fail
                            have t1 := T1.out
                            refine bodyPost_ret (v := .tuple #[.agg #[.slice none 0 0], .int .i64 42]) (by simp [results, Tryd.results8, go_sem, t1]) rfl (RBldP.bad HC.out (by decide) T2.out)
                        · obtain rfl : i = V.length := by omega
                          have hn5 : ¬ (V.length : Int) < (V.length : Int) := by omega
                          have HGD : Hid (bcode L = 0) := Lib.hid (rb_0 H0.out H1.out H2.out H3.out H4.out ((good_iff (all_short H3.out) (all_filled H1.out) H0.out).2 ⟨fun i j p q hi hj hij => HAP.out i j p q (List.getElem?_eq_some_iff.1 hi).1 hi hj hij, by rw [HV.out]; exact HVL.out, fun j m hj => by
                            rw [HV.out] at hj
                            exact HNO.out j m (List.getElem?_eq_some_iff.1 hj).1 hj⟩))
                          have hgw := HG5.out.on hbw
                          have HF := Lib.hid (hgw.fin (u := .slice rA nt rc) HT.out (by have := HNT.out; omega))
                          obtain ⟨t1, t2, t3, t4⟩ := told_all hgw.res hgw.below (.slice rA nt rc)
                          have qb := cell_of hgw.head 0
                          have T1 := Lib.hid t1
                          have T2 := Lib.hid t2
                          clear hi hbw hno hlt t1 t2 hgw
                          go_wp2_with fail
                          have t1 := T1.out
                          refine bodyPost_ret (v := .tuple #[.agg #[.slice rA nt rc], .int .i64 0]) (by simp [results, Tryd.results8, go_sem, t1]) rfl ⟨T2.out, .inr ⟨HGD.out, _, rfl, HF.out⟩⟩
                    · have HC : Hid (bcode L = 42) := Lib.hid (rb_42 H0.out H1.out H2.out H3.out (.inr (fun hgd => hVl (by
                        have := ((good_iff (all_short H3.out) (all_filled H1.out) H0.out).1 hgd).2.1
                        rw [HV.out] at this
                        exact this))))
                      have hbv : ((V.length : Int) == (L.length : Int)) = false := by rw [beq_eq_false_iff_ne]; omega
                      have hbv2 : ¬ (V.length : Int) = (L.length : Int) := by omega
                      have hbv3 : ((V.length : Int) != (L.length : Int)) = true := by rw [bne_iff_ne]; exact hbv2
                      obtain ⟨t1, t2, t3, t4⟩ := told_all HG5.out.res HG5.out.below (.slice none 0 0)
                      have T1 := Lib.hid t1
                      have T2 := Lib.hid t2
                      clear hVl t1 t2
                      go_wp2_with fail
                      have t1 := T1.out
                      refine bodyPost_ret (v := .tuple #[.agg #[.slice none 0 0], .int .i64 42]) (by simp [results, Tryd.results8, go_sem, t1]) rfl (RBldP.bad HC.out (by decide) T2.out)
end Go.Proofs.YtpploljennbpdaaDoor
