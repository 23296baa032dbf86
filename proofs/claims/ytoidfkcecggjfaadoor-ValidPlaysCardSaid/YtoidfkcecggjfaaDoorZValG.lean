/- Check, First, New; the calls on a history that is not there. -/
import Derived.Test.YtoidfkcecggjfaaDoorZValF
set_option linter.unusedSimpArgs false
set_option linter.unusedVariables false
set_option linter.unnecessarySimpa false
namespace Go.Proofs.YtoidfkcecggjfaaDoor
open Go.RowKit Go.Shelf

/-- A history with which one goes on. -/
structure HH (w : World) (h : Nat) (v : Value) (F : Nat) (vs : List Value) (C : List (List K)) : Prop extends HistAt w h v F vs C where
  good : Good C
  few : F + C.length ≤ 1000000
  glob : Glob w
  free : v.ownBlock ≠ some 0
  hfree : h ≠ 0
theorem HH.below {w w' : World} {h F : Nat} {v : Value} {vs : List Value} {C : List (List K)} (hh : HH w h v F vs C) (hb : Below w.heap.size w w') : HH w' h v F vs C := ⟨hh.toHistAt.below hb, hh.good, hh.few, hh.glob.below hb, hh.free, hh.hfree⟩
theorem first_any {w : World} {h F : Nat} {v rv : Value} {vs : List Value} {C : List (List K)} {since : Int} {reads : List K} (hh : HH w h v F vs C) (hr : RowIs w 1 rv reads.length (strs reads)) (hl2 : reads.length ≤ 1000000) :
    Calls Tryd.prog 22 #[.pointer (some ⟨h, 0, none⟩), .int .i64 since, rv] w (FirstPost w F C since reads) := by
  have hl := hh.few
  by_cases h1 : since < 0 ∨ (F : Int) + (C.length : Int) < since
  · exact first_arg hh.toHistAt hl hr h1
  · by_cases h2 : since < (F : Int)
    · exact first_late hh.toHistAt hl hr (by omega) h2
    · obtain ⟨s, hs⟩ : ∃ s : Nat, since = (F : Int) + (s : Int) := ⟨(since - (F : Int)).toNat, by omega⟩
      subst hs
      exact first_ok hh.toHistAt hl hh.good hr hl2 (by omega)
theorem firstR_ok (F : Nat) (C : List (List K)) (since : Int) (reads : List K) : NumOk (firstR F C since reads).2 ∧ (firstR F C since reads).2.length < 1000 ∧ (0 < (firstR F C since reads).1 → (firstR F C since reads).2 = []) := by
  unfold firstR
  split
  · exact ⟨by intro e hm; simp at hm; omega, by simp, fun h => by simp at h⟩
  · split
    · exact ⟨by intro e hm; simp at hm; omega, by simp, fun h => by simp at h⟩
    · split
      · exact ⟨by intro e hm; simp at hm, by simp, fun h => rfl⟩
      · exact ⟨by intro e hm; simp at hm, by simp, fun h => rfl⟩
/-- What Check answers. -/
def checkR (F : Nat) (C : List (List K)) (since : Int) (reads : List K) : Int := if 0 < (firstR F C since reads).1 then 23 else codeOf (firstR F C since reads).2
set_option maxRecDepth 100000 in
set_option maxHeartbeats 4000000 in
theorem Check_any {w : World} {h F : Nat} {v rv : Value} {vs : List Value} {C : List (List K)} {since : Int} {reads : List K} (hh : HH w h v F vs C) (hr : RowIs w 1 rv reads.length (strs reads)) (hl2 : reads.length ≤ 1000000) :
    Calls Tryd.prog 10 #[.pointer (some ⟨h, 0, none⟩), .int .i64 since, rv] w fun e w' => e = .returned (.int .i64 (checkR F C since reads)) ∧ Below w.heap.size w w' := by
  have HFI := Lib.hid (first_any (since := since) hh hr hl2)
  obtain ⟨f1, f2, f3⟩ := firstR_ok F C since reads
  have HG := Lib.hid hh.glob
  obtain ⟨ck, hck⟩ : ∃ ck, ck = checkR F C since reads := ⟨_, rfl⟩
  rw [← hck]
  unfold checkR at hck
  unfold FirstPost at HFI
  obtain ⟨P, hP⟩ : ∃ P, P = firstR F C since reads := ⟨_, rfl⟩
  rw [← hP] at HFI f1 f2 f3 hck
  obtain ⟨n, ks⟩ := P
  simp only at f1 f2 f3 hck
  have HCK := Lib.hid hck
  obtain ⟨Ar, cr, rfl, _⟩ := id hr.form
  have HF1 := Lib.hid f1
  have HF2 := Lib.hid f2
  have HF3 := Lib.hid f3
  clear hh hr hck hP f1 f2 f3
  go_enter Tryd.func10, Tryd.ntmps10
  go_wp2_with fail
  refine (HFI.out).mono ?_
  rintro e w1 ⟨ev, rfl, he, hb1⟩
  have HE := Lib.hid he
  have HB1 := Lib.hid hb1
  clear he hb1 HFI
  dsimp only
  by_cases q : 0 < n
  · have HNE := Lib.hid (new_any 23 w1)
    have HV : Hid (ck = 23) := Lib.hid (by rw [HCK.out, if_pos q])
    go_wp2_with fail
    refine (HNE.out).mono ?_
    rintro e w2 ⟨ev2, rfl, he2, hb2⟩
    have HAT := Lib.hid (at_any n he2)
    have HB2 := Lib.hid (HB1.out.trans (hb2.mono HB1.out.size))
    clear he2 hb2 HNE
    go_wp2_with fail
    refine (HAT.out).mono ?_
    rintro e w3 ⟨ev3, rfl, he3, hb3⟩
    have HB3 := Lib.hid (HB2.out.trans (hb3.mono HB2.out.size))
    have HCO := Lib.hid (code_any (HG.out.below HB3.out) he3 (by intro e hm; have hm : Lk.num e ∈ [Lk.plc n, Lk.num 23] := hm; simp at hm; omega) (by show 2 < 1000; omega) (Below.refl _ w3))
    clear he3 hb3 HAT
    go_wp2_with fail
    refine (HCO.out).mono ?_
    rintro e w4 ⟨rfl, hb4⟩
    have HB4 := Lib.hid (HB3.out.trans (hb4.mono HB3.out.size))
    clear hb4 HCO
    go_wp2_with fail
    go_ret
    rw [HV.out]
    exact ⟨rfl, HB4.out⟩
  · have HV : Hid (ck = codeOf ks) := Lib.hid (by rw [HCK.out, if_neg q])
    have HCO := Lib.hid (code_any (HG.out.below HB1.out) HE.out HF1.out HF2.out (Below.refl _ w1))
    go_wp2_with fail
    refine (HCO.out).mono ?_
    rintro e w4 ⟨rfl, hb4⟩
    have HB4 := Lib.hid (HB1.out.trans (hb4.mono HB1.out.size))
    clear hb4 HCO
    go_wp2_with fail
    go_ret
    rw [HV.out]
    exact ⟨rfl, HB4.out⟩
set_option maxRecDepth 100000 in
set_option maxHeartbeats 4000000 in
theorem First_any {w : World} {h F : Nat} {v rv : Value} {vs : List Value} {C : List (List K)} {since : Int} {reads : List K} (hh : HH w h v F vs C) (hr : RowIs w 1 rv reads.length (strs reads)) (hl2 : reads.length ≤ 1000000) :
    Calls Tryd.prog 14 #[.pointer (some ⟨h, 0, none⟩), .int .i64 since, rv] w fun e w' => e = .returned (.tuple #[.int .i64 (firstR F C since reads).1, .bool (decide (0 < (firstR F C since reads).1))]) ∧ Below w.heap.size w w' := by
  have HFI := Lib.hid (first_any (since := since) hh hr hl2)
  unfold FirstPost at HFI
  obtain ⟨P, hP⟩ : ∃ P, P = firstR F C since reads := ⟨_, rfl⟩
  rw [← hP] at HFI ⊢
  obtain ⟨n, ks⟩ := P
  obtain ⟨Ar, cr, rfl, _⟩ := id hr.form
  clear hh hr hP
  go_enter Tryd.func14, Tryd.ntmps14
  go_wp2_with fail
  refine (HFI.out).mono ?_
  rintro e w1 ⟨ev, rfl, he, hb1⟩
  have HB1 := Lib.hid hb1
  clear he hb1 HFI
  dsimp only
  go_wp2_with fail
  (try simp only [Exit.inBlock, Exit.then])
  refine bodyPost_ret (v := .tuple #[.int .i64 n, .bool (decide (0 < n))]) (by simp [results, Tryd.results14, go_sem]) rfl ⟨rfl, HB1.out⟩
set_option maxRecDepth 100000 in
set_option maxHeartbeats 1000000 in
theorem New_any {w : World} (hG : Glob w) : Calls Tryd.prog 6 #[] w fun e w' => ∃ h, e = .returned (.pointer (some ⟨h, 0, none⟩)) ∧ HH w' h (.slice none 0 0) 0 [] [] ∧ Below w.heap.size w w' ∧ w.heap.size ≤ h := by
  have hb := below_new (w := w) (.cells #[.int .i64 0, .slice none 0 0] 48)
  have hgl := hG.lt
  have HF : Hid (HH (w.alloc (.cells #[.int .i64 0, .slice none 0 0] 48)) w.heap.size (.slice none 0 0) 0 [] []) := Lib.hid ⟨⟨alloc_at w _, RowIs.nil _ _, fun i ks hi => by simp at hi, fun e => by (cases e), rfl⟩, fun ks hk => by (cases hk), by show 0 + 0 ≤ 1000000; omega, hG.below hb, fun e => by (cases e), by omega⟩
  have HB := Lib.hid hb
  clear hG hb
  go_enter Tryd.func6, Tryd.ntmps6
  go_wp2_with fail
  go_ret
  exact ⟨_, rfl, HF.out, HB.out, Nat.le_refl _⟩
end Go.Proofs.YtoidfkcecggjfaaDoor
