/- TapeNil: the walk. -/
import Derived.Test.YtojmfjmnfpnmmaaDoorTapR
import Derived.Deep.RegionHeld
set_option linter.unusedSimpArgs false
set_option linter.unusedVariables false
set_option linter.unnecessarySimpa false
namespace Go.Proofs.YtojmfjmnfpnmmaaDoor
open Go.RowKit

set_option maxRecDepth 100000 in
set_option maxHeartbeats 2000000 in
theorem law_nil {w : World} (hG : Glob w) (n0 n1 : Int) (h00 : -9223372036854775808 ≤ n0) (h01 : n0 ≤ 9223372036854775807) (h10 : -9223372036854775808 ≤ n1) (h11 : n1 ≤ 9223372036854775807) : Calls Tryd.prog 5 #[.int .i64 n0, .int .i64 n1] w fun e w' => e = .returned (.bool true) ∧ Below w.heap.size w w' := by
  have HG := Lib.hid (fun W (hW : Below w.heap.size w W) => hG.below hW)
  have HF := Lib.hid (fuse_nil (w := w) n1)
  have HR := Lib.hid (read_nil hG n0)
  have HA := Lib.hid (fun W (hW : Below w.heap.size w W) => append_err (p := none) (seg := n0) (A := none) (n := 0) (c := 0) (E := 1) (HG.out W hW) (by decide) (ready_nil n0))
  have HS := Lib.hid (fun W (hW : Below w.heap.size w W) => sync_nil (HG.out W hW) n0)
  have HT := Lib.hid (fun W (hW : Below w.heap.size w W) => trim_nil (HG.out W hW) n0 n1)
  have HD := Lib.hid (fun W (hW : Below w.heap.size w W) => drop_err (p := none) (seg := n0) (E := 1) (HG.out W hW) (by decide) (open_nil n0))
  have HAW := Lib.hid (fun W (hW : Below w.heap.size w W) => awake4 (HG.out W hW))
  clear hG h00 h01 h10 h11
  go_enter Tryd.func5, Tryd.ntmps5
  go_wp2_with fail
  refine (HF.out).mono ?_
  rintro e w0 ⟨rfl, rfl⟩
  go_wp2_with fail
  refine (HR.out).mono ?_
  rintro e w1 ⟨rfl, hb⟩
  have HB1 := Lib.hid hb
  have HA' := Lib.hid (HA.out w1 hb)
  clear hb
  go_wp2_with fail
  refine (HA'.out).mono ?_
  rintro e w2 ⟨rfl, hb⟩
  have HB2 := Lib.hid (HB1.out.trans (hb.mono HB1.out.size))
  have HS' := Lib.hid (HS.out w2 HB2.out)
  clear hb
  go_wp2_with fail
  refine (HS'.out).mono ?_
  rintro e w3 ⟨rfl, hb⟩
  have HB3 := Lib.hid (HB2.out.trans (hb.mono HB2.out.size))
  have HT' := Lib.hid (HT.out w3 HB3.out)
  clear hb
  go_wp2_with fail
  refine (HT'.out).mono ?_
  rintro e w4 ⟨rfl, hb⟩
  have HB4 := Lib.hid (HB3.out.trans (hb.mono HB3.out.size))
  have HD' := Lib.hid (HD.out w4 HB4.out)
  clear hb
  go_wp2_with fail
  refine (HD'.out).mono ?_
  rintro e w5 ⟨rfl, hb⟩
  have HB5 := Lib.hid (HB4.out.trans (hb.mono HB4.out.size))
  have HO := Lib.hid (room_nil (w := w5) n1)
  have HL := Lib.hid (len_nil (w := w5) n0)
  clear hb
  go_wp2_with fail
  refine (HO.out).mono ?_
  rintro e w6 ⟨rfl, rfl⟩
  go_wp2_with fail
  refine (HL.out).mono ?_
  rintro e w7 ⟨rfl, hb⟩
  have HB7 := Lib.hid (HB5.out.trans (hb.mono HB5.out.size))
  have HY := Lib.hid (synced_nil (w := w7) n0)
  clear hb
  go_wp2_with fail
  refine (HY.out).mono ?_
  rintro e w8 ⟨rfl, hb⟩
  have HB8 := Lib.hid (HB7.out.trans (hb.mono HB7.out.size))
  have HE := Lib.hid (segs_nil (w := w8))
  have HU := Lib.hid (used_nil (w := w8))
  have HV := Lib.hid (free_nil (w := w8))
  have HW := Lib.hid (down_nil (w := w8))
  have HC := Lib.hid (crash_nil (w := w8.alloc (.cells #[.int .i64 n1] 3)) (.slice (some ⟨w8.heap.size, 0, none⟩) 1 1))
  have HB9 := Lib.hid (HB8.out.trans ((below_new (w := w8) (.cells #[.int .i64 n1] 3)).mono HB8.out.size))
  have HAW' := Lib.hid (HAW.out _ HB9.out)
  clear hb
  go_wp2_with fail
  refine (HE.out).mono ?_
  rintro e w9 ⟨rfl, rfl⟩
  go_wp2_with fail
  refine (HU.out).mono ?_
  rintro e w10 ⟨rfl, rfl⟩
  go_wp2_with fail
  refine (HV.out).mono ?_
  rintro e w11 ⟨rfl, rfl⟩
  go_wp2_with fail
  refine (HW.out).mono ?_
  rintro e w12 ⟨rfl, rfl⟩
  go_wp2_with fail
  refine (HC.out).mono ?_
  rintro e w13 ⟨rfl, hw13⟩
  subst hw13
  go_wp2_with fail
  refine (HAW'.out).mono ?_
  rintro e w14 ⟨rfl, hb⟩
  have HB14 := Lib.hid (HB9.out.trans (hb.mono HB9.out.size))
  clear hb
  go_wp2_with fail
  go_ret
  exact ⟨rfl, HB14.out⟩
end Go.Proofs.YtojmfjmnfpnmmaaDoor
