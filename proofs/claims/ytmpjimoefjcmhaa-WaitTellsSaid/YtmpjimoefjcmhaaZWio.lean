/- Reach rises; two lists that are the same, asked by the law. -/
import Derived.Test.YtmpjimoefjcmhaaZWil
set_option linter.unusedSimpArgs false
set_option linter.unusedVariables false
set_option linter.unnecessarySimpa false
namespace Go.Proofs.Ytmpjimoefjcmhaa
open Go.RowKit

theorem sorted_rise (l : List Int) : (sorted l).Pairwise (· ≤ ·) := by
  unfold sorted
  have := List.pairwise_mergeSort (le := fun x y : Int => decide (x ≤ y)) (fun a b c h1 h2 => by simp at h1 h2 ⊢; omega) (fun a b => by simp; omega) l
  exact this.imp (fun h => by simpa using h)
theorem reach_any3 {w : World} {v : Value} {l : List (Int × Int)} {x : Int} (h : EIs w v l) (hr : ∀ e ∈ l, InR64 e.1 ∧ InR64 e.2) (hl : l.length ≤ 1000) (hx : InR64 x) :
    Calls Try.prog 16 #[.int .i64 x, v] w fun e w' => ∃ v' r, e = .returned v' ∧ ReachP l x r ∧ r.Pairwise (· ≤ ·) ∧ RowIs w' 1 v' r.length (ints r) ∧ (∀ b, v'.ownBlock = some b → w.heap.size ≤ b) ∧ Below w.heap.size w w' := by
  refine (reach_any h hr hl hx).mono ?_
  rintro e w' ⟨v', N, left, rfl, hf, hv, ho, hb⟩
  exact ⟨v', sorted left, rfl, hf.reach, sorted_rise left, by rw [sorted_len]; exact hv, ho, hb⟩
theorem ReachP.uniq {l m : List (Int × Int)} {x : Int} {r s : List Int} (h : ReachP l x r) (k : ReachP m x s) (hr : r.Pairwise (· ≤ ·)) (hs : s.Pairwise (· ≤ ·)) (hm : ∀ e, e ∈ l ↔ e ∈ m) : r = s :=
  rise_uniq h.one k.one hr hs (fun y => ⟨fun hy => h.only (fun y => y ∈ s) (fun y hy => k.first y ((hm _).1 hy)) (fun y z hy hz => k.next y z hy ((hm _).1 hz)) y hy, fun hy => k.only (fun y => y ∈ r) (fun y hy => h.first y ((hm _).2 hy)) (fun y z hy hz => h.next y z hy ((hm _).2 hz)) y hy⟩)
theorem ReachP.few {l : List (Int × Int)} {x : Int} {r : List Int} (h : ReachP l x r) : r.length ≤ l.length := by
  have h1 := nodup_le (m := l.map (·.2)) h.one (fun y hy => h.only (fun y => y ∈ l.map (·.2)) (fun y hy => List.mem_map.2 ⟨_, hy, rfl⟩) (fun y z _ hz => List.mem_map.2 ⟨_, hz, rfl⟩) y hy)
  rwa [List.length_map] at h1
theorem CircP.few {l : List (Int × Int)} {c : List Int} (h : CircP l c) : c.length ≤ l.length := by
  have h1 := nodup_le (m := l.map (·.1)) h.one (fun y hy => by
    obtain ⟨z, hz, _⟩ := (h.mem y).1 hy
    exact List.mem_map.2 ⟨_, hz, rfl⟩)
  rwa [List.length_map] at h1
set_option maxRecDepth 100000 in
set_option maxHeartbeats 4000000 in
theorem ints_same {w : World} {v v2 : Value} {l : List Int} (h : RowIs w 1 v l.length (ints l)) (h2 : RowIs w 1 v2 l.length (ints l)) (hl : l.length ≤ 1000000) : Calls Try.prog 14 #[v, v2] w fun e w' => e = .returned (.bool true) ∧ Below w.heap.size w w' := by
  obtain ⟨A, cap, rfl, h11, h12, _⟩ := id h.form
  obtain ⟨A2, cap2, rfl, h21, h22, _⟩ := id h2.form
  unfold maxLen at h12 h22
  have HH := Lib.hid h
  have HH2 := Lib.hid h2
  have hl' : (l.length : Int) ≤ 1000000 := by omega
  clear h h2
  go_enter Try.func14, Try.ntmps14
  go_wp2_with fail
  go_loopw [13] (fun iv wr => ∃ k : Nat, k ≤ l.length ∧ iv = .int .i64 k ∧ Below w.heap.size w wr) (fun iv _ => l.length - (intOf iv).toNat)
  case atStart => exact ⟨0, Nat.zero_le _, rfl, Below.refl _ _⟩
  case round =>
    obtain ⟨k, hk, rfl, hb⟩ := hrel
    have HB := Lib.hid hb
    by_cases hlt : k < l.length
    · have hx : l[k]? = some l[k] := List.getElem?_eq_getElem hlt
      generalize l[k] = y at hx
      obtain ⟨_, _, e', _, _, _, _, hc⟩ := (HH.out.below hb).form
      injection e' with e1 _ e3
      subst e1 e3
      obtain ⟨g, rfl, kc⟩ := hc k (.int .i64 y) (by unfold ints; rw [List.getElem?_map, hx]; rfl)
      obtain ⟨_, _, e', _, _, _, _, hc2⟩ := (HH2.out.below hb).form
      injection e' with e1 _ e3
      subst e1 e3
      obtain ⟨g2, rfl, kc2⟩ := hc2 k (.int .i64 y) (by unfold ints; rw [List.getElem?_map, hx]; rfl)
      have hi : (k : Int) < (l.length : Int) := by omega
      have HLT := Lib.hid hlt
      have HBD : Hid (Below w.heap.size w wr.drew) := Lib.hid (below_drew hb)
      have HCC : Hid (wr.drew.cell? ⟨g, k, none⟩ = some (.int .i64 y) ∧ wr.drew.cell? ⟨g2, k, none⟩ = some (.int .i64 y)) := Lib.hid ⟨kc, kc2⟩
      clear hx hk hb hc hc2 hlt
      go_wp2_with fail
      refine wp_region_held_drew (S := fun W => W.cell? ⟨g, k, none⟩ = some (.int .i64 y) ∧ W.cell? ⟨g2, k, none⟩ = some (.int .i64 y)) (by kernel_rfl) HCC.out (fun hHeld => ?_)
      clear kc kc2
      refine wpAnyH_take (i := 0) (oi := { dst := some 16, op := Op.move (Operand.tmp 0), type := 26, pos := "law.go:48", after := #[], guard := none }) (v := ?vv1) rfl (by kernel_rfl) (by kernel_rfl) (by kernel_rfl) (fun _ _ _ h => h) ?hy1 (by assumption) ?rest1
      case hy1 => (refine Or.inl ⟨by rfl, ?_⟩; intro W hSw; (try dsimp only at hSw); go_simp; (try with_reducible rfl))
      try simp only [Act.put, List.setIfInBounds_toArray, List.set_cons_zero, List.set_cons_succ]
      refine wpAnyH_take (i := 1) (oi := { dst := some 17, op := Op.move (Operand.tmp 5), type := 3, pos := "law.go:48", after := #[], guard := none }) (v := ?vv2) rfl (by kernel_rfl) (by kernel_rfl) (by kernel_rfl) (fun _ _ _ h => h) ?hy2 (by assumption) ?rest2
      case hy2 => (refine Or.inl ⟨by rfl, ?_⟩; intro W hSw; (try dsimp only at hSw); go_simp; (try with_reducible rfl))
      try simp only [Act.put, List.setIfInBounds_toArray, List.set_cons_zero, List.set_cons_succ]
      refine wpAnyH_take (i := 2) (oi := { dst := some 18, op := Op.indexAddr 26 (Operand.tmp 16) (Operand.tmp 17), type := 0, pos := "law.go:48", after := #[{ on := 0, ground := Ground.data }, { on := 1, ground := Ground.data }], guard := none }) (v := ?vv3) rfl (by kernel_rfl) (by kernel_rfl) (by kernel_rfl) (fun _ _ _ h => h) ?hy3 (by assumption) ?rest3
      case hy3 => (refine Or.inl ⟨by rfl, ?_⟩; intro W hSw; (try dsimp only at hSw); go_simp; (try with_reducible rfl))
      try simp only [Act.put, List.setIfInBounds_toArray, List.set_cons_zero, List.set_cons_succ]
      refine wpAnyH_take (i := 3) (oi := { dst := some 19, op := Op.load 3 (Operand.tmp 18), type := 3, pos := "law.go:48", after := #[{ on := 2, ground := Ground.data }], guard := none }) (v := ?vv4) rfl (by kernel_rfl) (by kernel_rfl) (by kernel_rfl) (fun _ _ _ h => h) ?hy4 (by assumption) ?rest4
      case hy4 => (refine Or.inl ⟨by rfl, ?_⟩; intro W hSw; (try dsimp only at hSw); go_simp; (try with_reducible rfl))
      try simp only [Act.put, List.setIfInBounds_toArray, List.set_cons_zero, List.set_cons_succ]
      refine wpAnyH_take (i := 4) (oi := { dst := some 20, op := Op.move (Operand.tmp 1), type := 26, pos := "law.go:48", after := #[], guard := none }) (v := ?vv5) rfl (by kernel_rfl) (by kernel_rfl) (by kernel_rfl) (fun _ _ _ h => h) ?hy5 (by assumption) ?rest5
      case hy5 => (refine Or.inl ⟨by rfl, ?_⟩; intro W hSw; (try dsimp only at hSw); go_simp; (try with_reducible rfl))
      try simp only [Act.put, List.setIfInBounds_toArray, List.set_cons_zero, List.set_cons_succ]
      refine wpAnyH_take (i := 5) (oi := { dst := some 21, op := Op.move (Operand.tmp 5), type := 3, pos := "law.go:48", after := #[], guard := none }) (v := ?vv6) rfl (by kernel_rfl) (by kernel_rfl) (by kernel_rfl) (fun _ _ _ h => h) ?hy6 (by assumption) ?rest6
      case hy6 => (refine Or.inl ⟨by rfl, ?_⟩; intro W hSw; (try dsimp only at hSw); go_simp; (try with_reducible rfl))
      try simp only [Act.put, List.setIfInBounds_toArray, List.set_cons_zero, List.set_cons_succ]
      refine wpAnyH_take (i := 6) (oi := { dst := some 22, op := Op.indexAddr 26 (Operand.tmp 20) (Operand.tmp 21), type := 0, pos := "law.go:48", after := #[{ on := 4, ground := Ground.data }, { on := 5, ground := Ground.data }], guard := none }) (v := ?vv7) rfl (by kernel_rfl) (by kernel_rfl) (by kernel_rfl) (fun _ _ _ h => h) ?hy7 (by assumption) ?rest7
      case hy7 => (refine Or.inl ⟨by rfl, ?_⟩; intro W hSw; (try dsimp only at hSw); go_simp; (try with_reducible rfl))
      try simp only [Act.put, List.setIfInBounds_toArray, List.set_cons_zero, List.set_cons_succ]
      refine wpAnyH_take (i := 7) (oi := { dst := some 23, op := Op.load 3 (Operand.tmp 22), type := 3, pos := "law.go:48", after := #[{ on := 6, ground := Ground.data }], guard := none }) (v := ?vv8) rfl (by kernel_rfl) (by kernel_rfl) (by kernel_rfl) (fun _ _ _ h => h) ?hy8 (by assumption) ?rest8
      case hy8 => (refine Or.inl ⟨by rfl, ?_⟩; intro W hSw; (try dsimp only at hSw); go_simp; (try with_reducible rfl))
      try simp only [Act.put, List.setIfInBounds_toArray, List.set_cons_zero, List.set_cons_succ]
      refine wpAnyH_take (i := 8) (oi := { dst := some 24, op := Op.binOp BinOp.neq 3 (Operand.tmp 19) (Operand.tmp 23) 3, type := 4, pos := "law.go:48", after := #[{ on := 3, ground := Ground.data }, { on := 7, ground := Ground.data }], guard := none }) (v := ?vv9) rfl (by kernel_rfl) (by kernel_rfl) (by kernel_rfl) (fun _ _ _ h => h) ?hy9 (by assumption) ?rest9
      case hy9 => (refine Or.inl ⟨by rfl, ?_⟩; intro W hSw; (try dsimp only at hSw); go_simp; (try with_reducible rfl))
      try simp only [Act.put, List.setIfInBounds_toArray, List.set_cons_zero, List.set_cons_succ]
      refine wpAnyH_done (by kernel_rfl) ?_ _
      clear hHeld
      go_wp2_with fail
      go_roundw
      case rel => exact ⟨k + 1, HLT.out, by go_num, HBD.out⟩
      case measure => have := HLT.out; simp [intOf]; omega
    · obtain rfl : k = l.length := by omega
      clear hlt hk hb
      go_wp2_with fail
      go_ret
      first | exact HB.out | exact ⟨rfl, HB.out⟩
theorem ordP_congr {G H : Gr} (h : ∀ x, at_ G x = at_ H x) (ks : List Int) : ∀ (n : Nat) (o : List Int), ordP G ks n o = ordP H ks n o
  | 0, _ => rfl
  | n + 1, o => by
    have e : freeP G ks o = freeP H ks o := by
      unfold freeP
      congr 1
      funext w
      rw [h]
    unfold ordP
    rw [e]
    cases freeP H ks o with
    | nil => rfl
    | cons w F => exact ordP_congr h ks n (o ++ [w])
theorem at_rise (l : List (Int × Int)) (x : Int) : (at_ (graphR l) x).Pairwise (· ≤ ·) := by
  unfold graphR
  rw [find_map_rises]
  split
  · exact (rises_lt _).imp (fun h => by omega)
  · exact List.Pairwise.nil
theorem at_congr {l m : List (Int × Int)} (hm : ∀ e, e ∈ l ↔ e ∈ m) (x : Int) : at_ (graphR l) x = at_ (graphR m) x :=
  rise_uniq (at_nodup _ _) (at_nodup _ _) (at_rise _ _) (at_rise _ _) (fun y => by rw [mem_at, mem_at, hm])
theorem KeysP.uniq {l m : List (Int × Int)} {a b : List Int} (h : KeysP l a) (k : KeysP m b) (hm : ∀ e, e ∈ l ↔ e ∈ m) : a = b :=
  rise_uniq h.one k.one h.rise k.rise (fun y => by
    rw [h.mem, k.mem]
    exact ⟨fun ⟨e, he, hy⟩ => ⟨e, (hm e).1 he, hy⟩, fun ⟨e, he, hy⟩ => ⟨e, (hm e).2 he, hy⟩⟩)
/-- The order is of those edges alone. -/
theorem ord_uniq {l m : List (Int × Int)} (hm : ∀ e, e ∈ l ↔ e ∈ m) {a b : List Int} {o p : List Int} {c d : Bool} (h : KeysP l a) (k : KeysP m b) (ho : ordP (graphR l) a a.length [] = (if c then some o else none)) (hp : ordP (graphR m) b b.length [] = (if d then some p else none)) (ho2 : c = false → o = []) (hp2 : d = false → p = []) : c = d ∧ o = p := by
  have := h.uniq k hm
  subst this
  rw [ordP_congr (at_congr hm), hp] at ho
  cases c <;> cases d
  · exact ⟨rfl, by rw [ho2 rfl, hp2 rfl]⟩
  · cases ho
  · cases ho
  · refine ⟨rfl, ?_⟩
    injection ho with ho
    exact ho.symm
end Go.Proofs.Ytmpjimoefjcmhaa
