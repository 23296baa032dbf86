/- lock: edges of a lane, walked. -/
import Derived.Test.YtmchmlkbpocboaaGreatDoorZLokL
set_option linter.unusedSimpArgs false
set_option linter.unusedVariables false
set_option linter.unnecessarySimpa false
namespace Go.Proofs.YtmchmlkbpocboaaGreatDoor
open Go.RowKit

/-- What a range over the holders has put behind the edges E0. -/
structure EIn1 (l : Ln) (c : Cm) (L : List MapEntry) (E0 E : List (Int × Int)) (seen : Array Nat) : Prop where
  mem : ∀ e, e ∈ E ↔ e ∈ E0 ∨ ∃ m ∈ L, m.born ∈ seen ∧ ∃ h, m.key = .int .i64 h ∧ h ≠ c.who ∧ togP l.mine c.mine = false ∧ e = (c.who, h)
  len : E.length + unseen (L.map fun m => (m.born, 0)) seen ≤ E0.length + L.length
/-- What a range over those ahead has put behind the edges E0. -/
structure EIn2 (l : Ln) (c : Cm) (E0 E : List (Int × Int)) (j : Nat) : Prop where
  mem : ∀ e, e ∈ E ↔ e ∈ E0 ∨ ∃ i x, i < j ∧ l.row[i]? = some x ∧ togP x.mine c.mine = false ∧ e = (c.who, x.who)
  len : E.length ≤ E0.length + j
theorem unseen_none (L : List MapEntry) : unseen (L.map fun m => (m.born, 0)) #[] = L.length := by
  unfold unseen
  induction L with
  | nil => rfl
  | cons x L ih => simp_all; omega
theorem EIn1.start (l : Ln) (c : Cm) (L : List MapEntry) (E0 : List (Int × Int)) : EIn1 l c L E0 E0 #[] := ⟨fun e => by simp, by rw [unseen_none]; omega⟩
theorem EIn1.step {l : Ln} {c : Cm} {L : List MapEntry} {E0 E : List (Int × Int)} {seen : Array Nat} {m : MapEntry} {h : Int} (H : EIn1 l c L E0 E seen) (hn : (L.map (·.born)).Nodup) (hm : m ∈ L) (hs : m.born ∉ seen) (hk : m.key = .int .i64 h) (E' : List (Int × Int)) (hE : E' = if h ≠ c.who ∧ togP l.mine c.mine = false then E ++ [(c.who, h)] else E) (hone : ∀ m' ∈ L, m'.born = m.born → m' = m) : EIn1 l c L E0 E' (seen.push m.born) ∧ unseen (L.map fun m => (m.born, 0)) (seen.push m.born) + 1 = unseen (L.map fun m => (m.born, 0)) seen := by
  have hu : unseen (L.map fun m => (m.born, 0)) (seen.push m.born) + 1 = unseen (L.map fun m => (m.born, 0)) seen := (seenSum_push (L.map fun m => (m.born, 0)) seen (m.born, 0) (by rw [List.map_map]; exact hn) (List.mem_map.2 ⟨m, hm, rfl⟩) hs).2
  refine ⟨⟨fun e => ?_, ?_⟩, hu⟩
  · have key : (∃ m' ∈ L, m'.born ∈ seen.push m.born ∧ ∃ h, m'.key = .int .i64 h ∧ h ≠ c.who ∧ togP l.mine c.mine = false ∧ e = (c.who, h)) ↔ (∃ m' ∈ L, m'.born ∈ seen ∧ ∃ h, m'.key = .int .i64 h ∧ h ≠ c.who ∧ togP l.mine c.mine = false ∧ e = (c.who, h)) ∨ (h ≠ c.who ∧ togP l.mine c.mine = false ∧ e = (c.who, h)) := by
      constructor
      · rintro ⟨m', hm', hb, h', hk', h1, h2, h3⟩
        rcases Array.mem_push.1 hb with hb | hb
        · exact .inl ⟨m', hm', hb, h', hk', h1, h2, h3⟩
        · have := hone m' hm' hb
          subst this
          rw [hk] at hk'
          injection hk' with _ hk'
          subst hk'
          exact .inr ⟨h1, h2, h3⟩
      · rintro (⟨m', hm', hb, h'⟩ | ⟨h1, h2, h3⟩)
        · exact ⟨m', hm', Array.mem_push.2 (.inl hb), h'⟩
        · exact ⟨m, hm, Array.mem_push.2 (.inr rfl), h, hk, h1, h2, h3⟩
    rw [key, hE]
    split
    · next hc =>
      rw [List.mem_append, List.mem_singleton, H.mem]
      constructor
      · rintro ((h1 | h1) | h1)
        · exact .inl h1
        · exact .inr (.inl h1)
        · exact .inr (.inr ⟨hc.1, hc.2, h1⟩)
      · rintro (h1 | h1 | h1)
        · exact .inl (.inl h1)
        · exact .inl (.inr h1)
        · exact .inr h1.2.2
    · next hc =>
      rw [H.mem]
      constructor
      · rintro (h1 | h1)
        · exact .inl h1
        · exact .inr (.inl h1)
      · rintro (h1 | h1 | h1)
        · exact .inl h1
        · exact .inr h1
        · exact absurd ⟨h1.1, h1.2.1⟩ hc
  · have h5 := H.len
    rw [hE]
    split
    · rw [List.length_append, List.length_singleton]; omega
    · omega
theorem EIn2.start (l : Ln) (c : Cm) (E0 : List (Int × Int)) : EIn2 l c E0 E0 0 := ⟨fun e => by simp, by omega⟩
theorem EIn2.step {l : Ln} {c : Cm} {E0 E : List (Int × Int)} {j : Nat} {x : Cm} (H : EIn2 l c E0 E j) (hx : l.row[j]? = some x) (E' : List (Int × Int)) (hE : E' = if togP x.mine c.mine = false then E ++ [(c.who, x.who)] else E) : EIn2 l c E0 E' (j + 1) := by
  refine ⟨fun e => ?_, ?_⟩
  · have key : (∃ i y, i < j + 1 ∧ l.row[i]? = some y ∧ togP y.mine c.mine = false ∧ e = (c.who, y.who)) ↔ (∃ i y, i < j ∧ l.row[i]? = some y ∧ togP y.mine c.mine = false ∧ e = (c.who, y.who)) ∨ (togP x.mine c.mine = false ∧ e = (c.who, x.who)) := by
      constructor
      · rintro ⟨i, y, hi, hy, h1⟩
        by_cases e : i = j
        · subst e
          rw [hx] at hy
          cases hy
          exact .inr h1
        · exact .inl ⟨i, y, by omega, hy, h1⟩
      · rintro (⟨i, y, hi, hy, h1⟩ | h1)
        · exact ⟨i, y, by omega, hy, h1⟩
        · exact ⟨j, x, by omega, hx, h1⟩
    rw [key, hE]
    split
    · next hc =>
      rw [List.mem_append, List.mem_singleton, H.mem]
      constructor
      · rintro ((h1 | h1) | h1)
        · exact .inl h1
        · exact .inr (.inl h1)
        · exact .inr (.inr ⟨hc, h1⟩)
      · rintro (h1 | h1 | h1)
        · exact .inl (.inl h1)
        · exact .inl (.inr h1)
        · exact .inr h1.2
    · next hc =>
      rw [H.mem]
      constructor
      · rintro (h1 | h1)
        · exact .inl h1
        · exact .inr (.inl h1)
      · rintro (h1 | h1 | h1)
        · exact .inl h1
        · exact .inr h1
        · exact absurd h1.1 hc
  · have := H.len
    rw [hE]
    split
    · rw [List.length_append, List.length_singleton]; omega
    · omega
/-- One more place is done. -/
theorem EOk.step {l : Ln} {k : Nat} {c : Cm} {E0 E1 E2 : List (Int × Int)} {L : List MapEntry} {seen : Array Nat} (h : EOk l k E0) (hc : l.row[k]? = some c) (h1 : EIn1 l c L E0 E1 seen) (h2 : EIn2 l c E1 E2 k) (hall : ∀ m ∈ L, m.born ∈ seen) (hk : L.map (·.key) = l.held.map (Value.int .i64)) : EOk l (k + 1) E2 := by
  have hll : L.length = l.held.length := by have := congrArg List.length hk; simpa using this
  have hkl := (List.getElem?_eq_some_iff.1 hc).1
  refine ⟨fun e => ?_, ?_⟩
  · have hset : (∃ m ∈ L, m.born ∈ seen ∧ ∃ h, m.key = .int .i64 h ∧ h ≠ c.who ∧ togP l.mine c.mine = false ∧ e = (c.who, h)) ↔ ∃ h ∈ l.held, h ≠ c.who ∧ togP l.mine c.mine = false ∧ e = (c.who, h) := by
      constructor
      · rintro ⟨m, hm, _, h, hmk, h3⟩
        have : Value.int .i64 h ∈ L.map (·.key) := List.mem_map.2 ⟨m, hm, hmk⟩
        rw [hk] at this
        obtain ⟨h', hh', e'⟩ := List.mem_map.1 this
        injection e' with _ e'
        exact ⟨h, e' ▸ hh', h3⟩
      · rintro ⟨h, hh, h3⟩
        have : Value.int .i64 h ∈ l.held.map (Value.int .i64) := List.mem_map.2 ⟨h, hh, rfl⟩
        rw [← hk] at this
        obtain ⟨m, hm, e'⟩ := List.mem_map.1 this
        exact ⟨m, hm, hall m hm, h, e', h3⟩
    have hstep : (∃ i, i < k + 1 ∧ EAt l i e) ↔ (∃ i, i < k ∧ EAt l i e) ∨ EAt l k e := by
      constructor
      · rintro ⟨i, hi, he⟩
        by_cases e : i = k
        · exact .inr (e ▸ he)
        · exact .inl ⟨i, by omega, he⟩
      · rintro (⟨i, hi, he⟩ | he)
        · exact ⟨i, by omega, he⟩
        · exact ⟨k, by omega, he⟩
    rw [h2.mem, h1.mem, h.1, hstep, hset]
    have hat : EAt l k e ↔ (∃ h ∈ l.held, h ≠ c.who ∧ togP l.mine c.mine = false ∧ e = (c.who, h)) ∨ ∃ j x, j < k ∧ l.row[j]? = some x ∧ togP x.mine c.mine = false ∧ e = (c.who, x.who) := by
      unfold EAt
      constructor
      · rintro ⟨c', hc', h3⟩
        rw [hc] at hc'
        cases hc'
        exact h3
      · exact fun h3 => ⟨c, hc, h3⟩
    rw [hat, or_assoc]
  · have a := h.2
    have b := h1.len
    have d := h2.len
    rw [Nat.add_mul]
    omega
theorem RowIs.iter {w w' : World} {z n it : Nat} {v : Value} {l : List Value} {r : Option Nat} {clock : Nat} {seen : Array Nat} (h : RowIs w z v n l) (hi : IterAt w it r clock seen) (ht : Touch (· = it) w w') : RowIs w' z v n l := by
  rcases h with h | ⟨g, cap, e, h1, h2, h3⟩
  · exact .inl h
  · refine .inr ⟨g, cap, e, h1, h2, ?_⟩
    by_cases hg : g = it
    · obtain ⟨s, c0, _, h5⟩ := hi
      have hno : ∀ j, w.cell? ⟨g, j, none⟩ = none := fun j => by
        unfold World.cell?
        rw [show w.heap[(⟨g, j, none⟩ : Addr).block]? = some (.mapIter r s seen c0) from by rw [hg]; exact h5]
      have h0 : cap * z = 0 := by
        rcases Nat.eq_zero_or_pos (cap * z) with h1 | h1
        · exact h1
        · have := (h3.there 0 h1).1
          rw [hno] at this
          cases this
      refine ⟨Nat.lt_of_lt_of_le h3.lt ht.size, h3.le, h3.max, fun j b hj => ?_, fun j hj => by omega⟩
      have := h3.holds j b hj
      rw [hno] at this
      cases this
    · exact h3.keep ht.size (ht.block g h3.lt hg)
/-- What the edges of a lane are told as. -/
def EdgesQ (w : World) (l : Ln) (e : Ending) (w' : World) : Prop := ∃ s E, e = .returned s ∧ ERow (w.heap.size ≤ ·) w' s E ∧ EOk l l.row.length E ∧ Below w.heap.size w w'
set_option maxRecDepth 100000 in
set_option maxHeartbeats 4000000 in
theorem edges_any {w : World} {b gh : Nat} {rv : Value} {l : Ln} (h : LnAt w b gh rv l) (hH : l.held.length ≤ 1000) (hR : l.row.length ≤ 1000) : Calls Tryz.prog 41 #[.pointer (some ⟨b, 0, none⟩)] w (EdgesQ w l) := by
  have HH := Lib.hid h
  obtain ⟨L, clock, hmap, hval, hkey, hin⟩ := id h.held
  have hll : L.length = l.held.length := by have := congrArg List.length hkey; simpa using this
  obtain ⟨A, cap, rfl, hA1, hA2, hc⟩ := id h.row.form
  unfold maxLen at hA2
  have HC := Lib.hid hc
  have HM := Lib.hid hmap
  have HK := Lib.hid hkey
  have HI := Lib.hid hin
  have HLL := Lib.hid hll
  have HHL := Lib.hid hH
  have HRL := Lib.hid hR
  have k2 : w.cell? ⟨b, 2, none⟩ = some (.slice A l.row.length cap) := cell_of h.head 2
  have hRI : (l.row.length : Int) ≤ 1000 := by omega
  have hAI : (l.row.length : Int) ≤ (cap : Int) := by omega
  have HCAP := Lib.hid (And.intro hA1 hA2)
  clear h hmap hkey hin hll hc hval hH hR
  go_enter Tryz.func41, Tryz.ntmps41
  go_wp2_with fail
  go_loopw [3, 14] (fun s i wr => ∃ (k : Nat) (E : List (Int × Int)), k ≤ l.row.length ∧ i = .int .i64 k ∧ ERow (w.heap.size ≤ ·) wr s E ∧ EOk l k E ∧ Below w.heap.size w wr) (fun _ i _ => l.row.length - (intOf i).toNat)
  case atStart => exact ⟨0, [], Nat.zero_le _, rfl, ⟨none, 0, rfl, RowIs.nil _ _, fun g e => by cases e⟩, ⟨fun e => by simp, by simp⟩, Below.refl _ _⟩
  case round =>
    obtain ⟨k, E, hk, rfl, hrow, hok, hbw⟩ := hrel
    obtain ⟨wo, rfl⟩ : ∃ wo, wo = wr := ⟨_, rfl⟩
    have HROW := Lib.hid hrow
    have HOK := Lib.hid hok
    have HBW := Lib.hid hbw
    by_cases hlt : k < l.row.length
    · have hx : l.row[k]? = some l.row[k] := List.getElem?_eq_getElem hlt
      generalize l.row[k] = c at hx
      obtain ⟨d0, d1⟩ := cmC_at hx
      obtain ⟨g, o, rfl, k0⟩ := HC.out _ _ d0
      obtain ⟨g', o', eg, k1⟩ := HC.out _ _ d1
      injection eg with eg
      injection eg with eg1 eg2
      subst eg1 eg2
      have q0 := (hbw.cell (p := ⟨g, o + k * 2, none⟩) (heap_lt' k0)).trans k0
      have q1 : wo.cell? ⟨g, o + k * 2 + 1, none⟩ = some (.bool c.mine) := (hbw.cell (p := ⟨g, o + (k * 2 + 1), none⟩) (heap_lt' k1)).trans k1
      have hi : (k : Int) < (l.row.length : Int) := by omega
      have hln := HH.out.below hbw
      have hbn := below_new (w := wo) (.cells #[.int .i64 c.who, .bool c.mine] 106)
      have hxn := alloc_at wo (.cells #[.int .i64 c.who, .bool c.mine] 106)
      have hln1 := hln.below hbn
      have m0 : (wo.alloc (.cells #[.int .i64 c.who, .bool c.mine] 106)).cell? ⟨b, 0, none⟩ = some (.map (some gh)) := cell_of hln1.head 0
      obtain ⟨w1, hw1⟩ : ∃ w1, w1 = wo.alloc (.cells #[.int .i64 c.who, .bool c.mine] 106) := ⟨_, rfl⟩
      rw [← hw1] at hbn hxn hln1
      have HB1 := Lib.hid (hbw.trans (hbn.mono hbw.size))
      have hm1 := HM.out.keep (HB1.out.block _ HM.out.lt)
      have HM1 := Lib.hid hm1
      have HW1 := Lib.hid hw1
      have HX1 := Lib.hid hxn
      have HX := Lib.hid hx
      have HLT := Lib.hid hlt
      have HWO := Lib.hid hbw.size
      have HWN := Lib.hid hbn
      have HHB : Hid (b < w.heap.size ∧ gh < w.heap.size) := Lib.hid ⟨heap_lt HH.out.head, HH.out.held.lt⟩
      clear hrow hok hbw hx d0 d1 k0 k1 hln hbn hxn hln1 hw1 hlt hm1
      go_wp2_with (at_range; rw [← HW1.out]; refine wpList_map_start _ rfl _ 80 rfl Tryz.underlying80 HM1.out rfl ?_; intro w2 hit2 hb2 hz2)
      have HI2 := Lib.hid hit2
      have HB2 := Lib.hid (HB1.out.trans (hb2.mono HB1.out.size))
      have HX2 := Lib.hid ((hb2.block _ (heap_lt HX1.out)).trans HX1.out)
      have HR2 : Hid (ERow (fun g => w.heap.size ≤ g ∧ (g < wo.heap.size ∨ w1.heap.size < g)) w2 _ E) := Lib.hid ((HROW.out.less (Q := fun g => w.heap.size ≤ g ∧ (g < wo.heap.size ∨ w1.heap.size < g)) (fun k hk h => ⟨h, .inl hk⟩)).below ((HWN.out.trans (hb2.mono HWN.out.size))))
      have HIT : Hid (w.heap.size ≤ w1.heap.size ∧ wo.heap.size < w1.heap.size ∧ w1.heap.size < w2.heap.size) := Lib.hid ⟨HB1.out.size, heap_lt HX1.out, by rw [hz2]; omega⟩
      obtain ⟨A2, c2, rfl, _⟩ := id HROW.out
      clear hit2 hb2 hz2 m0 q0 q1 k2 HM1
      generalize hit : w1.heap.size = it at *
      generalize hbx : wo.heap.size = bx at *
      have HITE := Lib.hid hit
      clear hit hbx
      try go_frame
      go_loopg [3] (unseen (L.map fun m => (m.born, 0)) #[]) (fun g s wr => ∃ (seen : Array Nat) (E1 : List (Int × Int)), g = unseen (L.map fun m => (m.born, 0)) seen ∧ ERow (fun g => w.heap.size ≤ g ∧ (g < bx ∨ it < g)) wr s E1 ∧ EIn1 l c L E E1 seen ∧ IterAt wr it (some gh) clock seen ∧ wr.heap[bx]? = some (.cells #[.int .i64 c.who, .bool c.mine] 106 (0, 0)) ∧ Below w.heap.size w wr)
      case atStart => exact ⟨#[], E, rfl, HR2.out, EIn1.start l c L E, HI2.out, HX2.out, HB2.out⟩
      case round =>
        obtain ⟨seen, E1, rfl, hr1, hin1, hit1, hbx1, hb1⟩ := hrel
        obtain ⟨wi, rfl⟩ : ∃ wi, wi = wr := ⟨_, rfl⟩
        have HR1 := Lib.hid hr1
        have HIN1 := Lib.hid hin1
        have HIT1 := Lib.hid hit1
        have HBX1 := Lib.hid hbx1
        have HB1 := Lib.hid hb1
        clear hr1 hin1 hit1 hbx1 hb1 HI2 HX2 HR2
        go_wp2_with (at_next; refine wpList_map_step _ rfl _ rfl (HM.out.keep (HB1.out.block _ HM.out.lt)) HIT1.out (by have := HHB.out; have := HIT.out; omega) rfl ?_ ?_)
        · intro hall
          have HALL := Lib.hid hall
          have k2 : wi.cell? ⟨b, 2, none⟩ = some (.slice (some ⟨g, o, none⟩) l.row.length cap) := cell_of (HH.out.below HB1.out).head 2
          have hkI : (k : Int) ≤ (cap : Int) := by have := HCAP.out.1; omega
          have hkn : (k : Int) ≤ (l.row.length : Int) := by omega
          obtain ⟨A5, c5, rfl, _⟩ := id HR1.out
          clear hall
          go_wp2_with fail
          go_loopw [3, 56] (fun s i wr => ∃ (j : Nat) (E2 : List (Int × Int)), j ≤ k ∧ i = .int .i64 j ∧ ERow (fun g => w.heap.size ≤ g ∧ (g < bx ∨ it < g)) wr s E2 ∧ EIn2 l c E1 E2 j ∧ wr.heap[bx]? = some (.cells #[.int .i64 c.who, .bool c.mine] 106 (0, 0)) ∧ Below w.heap.size w wr ∧ it < wr.heap.size) (fun _ i _ => k - (intOf i).toNat)
          case atStart => exact ⟨0, E1, Nat.zero_le _, rfl, HR1.out, EIn2.start l c E1, HBX1.out, HB1.out, HIT1.out.lt⟩
          case round =>
            obtain ⟨j, E2, hj, rfl, hr2, hin2, hbx2, hb2, hitl⟩ := hrel
            obtain ⟨w2', rfl⟩ : ∃ w2', w2' = wr := ⟨_, rfl⟩
            have HR2' := Lib.hid hr2
            have HIN2 := Lib.hid hin2
            have HBX2 := Lib.hid hbx2
            have HB2' := Lib.hid hb2
            have HITL := Lib.hid hitl
            obtain ⟨A6, c6, rfl, hrw6, hro6⟩ := id hr2
            by_cases hjk : j < k
            · have hy : l.row[j]? = some (l.row[j]'(by have := HLT.out; omega)) := List.getElem?_eq_getElem _
              generalize l.row[j]'(by have := HLT.out; omega) = y at hy
              obtain ⟨e0, e1⟩ := cmC_at hy
              obtain ⟨g2, o2, eg2, n0⟩ := HC.out _ _ e0
              obtain ⟨g3, o3, eg3, n1⟩ := HC.out _ _ e1
              injection eg2 with eg2
              injection eg2 with e21 e22
              subst e21 e22
              injection eg3 with eg3
              injection eg3 with e31 e32
              subst e31 e32
              have r0 := (hb2.cell (p := ⟨g, o + j * 2, none⟩) (heap_lt' n0)).trans n0
              have r1 : w2'.cell? ⟨g, o + j * 2 + 1, none⟩ = some (.bool y.mine) := (hb2.cell (p := ⟨g, o + (j * 2 + 1), none⟩) (heap_lt' n1)).trans n1
              have hjI : (j : Int) < (k : Int) := by omega
              have hbn := below_new (w := w2') (.cells #[.int .i64 y.who, .bool y.mine] 106)
              have hxn := alloc_at w2' (.cells #[.int .i64 y.who, .bool y.mine] 106)
              have hbx3 := (hbn.block bx (heap_lt hbx2)).trans hbx2
              have hb3 := hb2.trans (hbn.mono hb2.size)
              have hrw7 := hrw6.below hbn
              have x0 : (w2'.alloc (.cells #[.int .i64 y.who, .bool y.mine] 106)).cell? ⟨w2'.heap.size, 0, none⟩ = some (.int .i64 y.who) := cell_of hxn 0
              have x1 : (w2'.alloc (.cells #[.int .i64 y.who, .bool y.mine] 106)).cell? ⟨w2'.heap.size, 1, none⟩ = some (.bool y.mine) := cell_of hxn 1
              have b0 : (w2'.alloc (.cells #[.int .i64 y.who, .bool y.mine] 106)).cell? ⟨bx, 0, none⟩ = some (.int .i64 c.who) := cell_of hbx3 0
              have b1 : (w2'.alloc (.cells #[.int .i64 y.who, .bool y.mine] 106)).cell? ⟨bx, 1, none⟩ = some (.bool c.mine) := cell_of hbx3 1
              obtain ⟨tg, htg⟩ : ∃ tg, togP y.mine c.mine = tg := ⟨_, rfl⟩
              have HTG := Lib.hid htg
              have HST := Lib.hid (HIN2.out.step hy _ rfl)
              have HJK := Lib.hid hjk
              have HBN := Lib.hid (And.intro hbx3 (And.intro hb3 hrw7))
              have hel : E2.length ≤ 16777000 := by
                have h7 := HIN1.out.len
                have h8 := HOK.out.2
                have h9 := HLL.out
                have h10 := HIN2.out.len
                have := HHL.out
                have := HRL.out
                have := HLT.out
                have : k * (l.held.length + l.row.length) ≤ 1000 * 2000 := Nat.mul_le_mul (by omega) (by omega)
                omega
              obtain ⟨A8, c8, w8, hr8, hrow8, ho8, hb8, ht8⟩ := app_edge (w := w) (wr := w2'.alloc (.cells #[.int .i64 y.who, .bool y.mine] 106)) c.who y.who 46 hrw7 hro6 (fun g e => e.1) (fun g e => ⟨Nat.le_trans hb3.size e, .inr (by rw [asz] at e; omega)⟩) hb3 hel
              have HR8 := Lib.hid (And.intro hrow8 (And.intro ho8 hb8))
              rw [asz] at hr8
              have HRUN := Lib.hid hr8
              have HX8 := Lib.hid ((ht8.block bx (heap_lt hbx3) (fun e => by have h7 := (hro6 _ e).2; have h8 := HIT.out; omega)).trans hbx3)
              have HL8 := Lib.hid (Nat.lt_of_lt_of_le (Nat.lt_of_lt_of_le hitl hbn.size) ht8.size)
              have HL7 := Lib.hid (Nat.lt_of_lt_of_le hitl hbn.size)
              have HRO6 := Lib.hid hro6
              clear hr2 hin2 hbx2 hb2 hitl hrw6 hro6 hjk hy e0 e1 n0 n1 hbn hxn hbx3 hb3 hrw7 hel hr8 hrow8 ho8 hb8 ht8 htg hj k2
              go_wp2_with fail
              refine (together_any _ _ _).mono ?_
              rintro e w4 ⟨rfl, rfl⟩
              rw [HTG.out]
              cases tg with
              | true =>
                have HS2 : Hid (EIn2 l c E1 E2 (j + 1)) := Lib.hid (by
                  have := HST.out
                  rwa [if_neg (fun e => by rw [HTG.out] at e; cases e)] at this)
                clear HST
                go_wp2_with fail
                go_roundw
                case rel => exact ⟨j + 1, E2, HJK.out, by go_num, ⟨A6, c6, rfl, HBN.out.2.2, HRO6.out⟩, HS2.out, HBN.out.1, HBN.out.2.1, HL7.out⟩
                case measure => have := HJK.out; simp [intOf]; omega
              | false =>
                have HS2 : Hid (EIn2 l c E1 (E2 ++ [(c.who, y.who)]) (j + 1)) := Lib.hid (by
                  have := HST.out
                  rwa [if_pos HTG.out] at this)
                clear HST
                go_wp2_with (at_builtin; refine wpList_app_run rfl _ _ _ _ rfl rfl rfl HRUN.out ?_)
                go_roundw
                case rel => exact ⟨j + 1, E2 ++ [(c.who, y.who)], HJK.out, by go_num, ⟨A8, c8, by simp, by simpa using HR8.out.1, by simpa using HR8.out.2.1⟩, HS2.out, HX8.out, HR8.out.2.2, HL8.out⟩
                case measure => have := HJK.out; simp [intOf]; omega
            · obtain rfl : j = k := by omega
              have hn : ¬ (j : Int) < (j : Int) := by omega
              have HS3 := Lib.hid (HOK.out.step HX.out HIN1.out HIN2.out HALL.out HK.out)
              clear hr2 hin2 hbx2 hb2 hitl hrw6 hro6 hjk hj k2
              go_wp2_with fail
              go_roundw
              case rel => exact ⟨j + 1, E2, HLT.out, by go_num, HR2'.out.less (fun k _ h => h.1), HS3.out, HB2'.out⟩
              case measure => have := HLT.out; simp [intOf]; omega
        · intro m hm hs w3 hit3 ht3 hz3 hen
          have hmk : ∃ hd ∈ l.held, m.key = .int .i64 hd := by
            have : m.key ∈ L.map (·.key) := List.mem_map.2 ⟨m, hm, rfl⟩
            rw [HK.out] at this
            obtain ⟨hd, h1, h2⟩ := List.mem_map.1 this
            exact ⟨hd, h1, h2.symm⟩
          obtain ⟨hd, hhd, hmk⟩ := hmk
          have hHD := HI.out hd hhd
          have hone : ∀ m' ∈ L, m'.born = m.born → m' = m := fun m' hm' e => by
            obtain ⟨i, hi⟩ := List.getElem?_of_mem hm'
            obtain ⟨j, hj⟩ := List.getElem?_of_mem hm
            have hn := HM.out.apart
            have e1 : (L.map (·.born))[i]? = some m'.born := by rw [List.getElem?_map, hi]; rfl
            have e2 : (L.map (·.born))[j]? = some m.born := by rw [List.getElem?_map, hj]; rfl
            obtain ⟨l1, f1⟩ := List.getElem?_eq_some_iff.1 e1
            obtain ⟨l2, f2⟩ := List.getElem?_eq_some_iff.1 e2
            have := (List.getElem_inj (h₀ := l1) (h₁ := l2) hn).1 (by rw [f1, f2, e])
            subst this
            rw [hi] at hj
            exact Option.some.inj hj
          have HST := Lib.hid (HIN1.out.step HM.out.apart hm hs hmk _ rfl hone)
          have hb3 : Below w.heap.size w w3 := HB1.out.trans (ht3.below (fun i hi => by have := HIT.out; omega) HB1.out.size)
          have hx3 := (ht3.block bx (heap_lt HBX1.out) (fun e => by have := HIT.out; omega)).trans HBX1.out
          obtain ⟨A3, c3, rfl, hrw3, hro3⟩ := id HR1.out
          have HR3 := Lib.hid (And.intro (hrw3.iter HIT1.out ht3) hro3)
          have HB3 := Lib.hid hb3
          have HX3 := Lib.hid hx3
          have HI3 := Lib.hid hit3
          replace hen : (Instr.entry (.pointer (some ⟨it, 0, none⟩))).run Tryz.prog w3 = .ok (.tuple #[.int .i64 hd, m.val]) w3 := by rw [← hmk]; exact hen
          have hln3 := HH.out.below hb3
          have p0 : w3.drew.cell? ⟨bx, 0, none⟩ = some (.int .i64 c.who) := cell_of hx3 0
          have p1 : w3.drew.cell? ⟨bx, 1, none⟩ = some (.bool c.mine) := cell_of hx3 1
          have p2 : w3.drew.cell? ⟨b, 1, none⟩ = some (.bool l.mine) := cell_of hln3.head 1
          rw [hmk]
          clear hm hs hit3 ht3 hz3 hb3 hx3 hrw3 hro3 hln3 hone hhd hHD
          by_cases hne : hd = c.who
          · have hb1 : (hd != c.who) = false := by simpa using hne
            have hb2 : (hd == c.who) = true := by simpa using hne
            have HS2 : Hid (EIn1 l c L E E1 (seen.push m.born) ∧ unseen (L.map fun m => (m.born, 0)) (seen.push m.born) + 1 = unseen (L.map fun m => (m.born, 0)) seen) := Lib.hid (by
              have := HST.out
              rwa [if_neg (fun e => e.1 hne)] at this)
            clear hne HST
            go_wp2_with fail
            refine wp_region_held_drew (S := fun W => W.cell? ⟨bx, 0, none⟩ = some (.int .i64 c.who)) (by kernel_rfl) p0 (fun hHeld => ?_)
            refine wpAnyH_take (i := 0) (oi := { dst := some 28, op := Op.move (Operand.tmp 6), type := 3, pos := "lane.go:58", after := #[], guard := none }) (v := ?vv1) rfl (by kernel_rfl) (by kernel_rfl) (by kernel_rfl) (fun _ _ _ h => h) ?hy1 (by assumption) ?rest1
            case hy1 => (refine Or.inl ⟨by rfl, ?_⟩; intro W hSw; (try dsimp only at hSw); go_simp; (try with_reducible rfl))
            try simp only [Act.put, List.setIfInBounds_toArray, List.set_cons_zero, List.set_cons_succ]
            refine wpAnyH_take (i := 1) (oi := { dst := some 29, op := Op.fieldAddr 106 (Operand.tmp 5) 0, type := 0, pos := "lane.go:58", after := #[], guard := none }) (v := ?vv2) rfl (by kernel_rfl) (by kernel_rfl) (by kernel_rfl) (fun _ _ _ h => h) ?hy2 (by assumption) ?rest2
            case hy2 => (refine Or.inl ⟨by rfl, ?_⟩; intro W hSw; (try dsimp only at hSw); go_simp; (try with_reducible rfl))
            try simp only [Act.put, List.setIfInBounds_toArray, List.set_cons_zero, List.set_cons_succ]
            refine wpAnyH_take (i := 2) (oi := { dst := some 30, op := Op.load 3 (Operand.tmp 29), type := 3, pos := "lane.go:58", after := #[{ on := 1, ground := Ground.data }], guard := none }) (v := ?vv3) rfl (by kernel_rfl) (by kernel_rfl) (by kernel_rfl) (fun _ _ _ h => h) ?hy3 (by assumption) ?rest3
            case hy3 => (refine Or.inl ⟨by rfl, ?_⟩; intro W hSw; (try dsimp only at hSw); go_simp; (try with_reducible rfl))
            try simp only [Act.put, List.setIfInBounds_toArray, List.set_cons_zero, List.set_cons_succ]
            refine wpAnyH_take (i := 3) (oi := { dst := some 31, op := Op.binOp BinOp.neq 3 (Operand.tmp 28) (Operand.tmp 30) 3, type := 4, pos := "lane.go:58", after := #[{ on := 0, ground := Ground.data }, { on := 2, ground := Ground.data }], guard := none }) (v := (.bool false)) rfl (by kernel_rfl) (by kernel_rfl) (by kernel_rfl) (fun _ _ _ h => h) ?hy4 (by assumption) ?rest4
            case hy4 => ((refine Or.inl ⟨by rfl, ?_⟩; intro W hSw; (try dsimp only at hSw); go_simp; (first | done | with_reducible rfl | omega | simp_all)))
            try simp only [Act.put, List.setIfInBounds_toArray, List.set_cons_zero, List.set_cons_succ]
            refine wpAnyH_take (i := 4) (oi := { dst := some 32, op := Op.move (Operand.tmp 31), type := 4, pos := "lane.go:58", after := #[{ on := 3, ground := Ground.data }], guard := none }) (v := ?vv5) rfl (by kernel_rfl) (by kernel_rfl) (by kernel_rfl) (fun _ _ _ h => h) ?hy5 (by assumption) ?rest5
            case hy5 => (refine Or.inl ⟨by rfl, ?_⟩; intro W hSw; (try dsimp only at hSw); go_simp; (try with_reducible rfl))
            try simp only [Act.put, List.setIfInBounds_toArray, List.set_cons_zero, List.set_cons_succ]
            refine wpAnyH_take (i := 5) (oi := { dst := some 33, op := Op.move (Operand.tmp 0), type := 71, pos := "lane.go:58", after := #[{ on := 4, ground := Ground.guard }], guard := some (4, true) }) (v := undef) rfl (by kernel_rfl) (by kernel_rfl) (by kernel_rfl) (fun _ _ _ h => h) ?hy6 (by assumption) ?rest6
            case hy6 => (exact Or.inr ⟨by rfl, rfl⟩)
            try simp only [Act.put, List.setIfInBounds_toArray, List.set_cons_zero, List.set_cons_succ]
            refine wpAnyH_take (i := 6) (oi := { dst := some 34, op := Op.nilCheck (Operand.tmp 33), type := 0, pos := "lane.go:58", after := #[{ on := 5, ground := Ground.data }, { on := 4, ground := Ground.guard }], guard := some (4, true) }) (v := undef) rfl (by kernel_rfl) (by kernel_rfl) (by kernel_rfl) (fun _ _ _ h => h) ?hy7 (by assumption) ?rest7
            case hy7 => (exact Or.inr ⟨by rfl, rfl⟩)
            try simp only [Act.put, List.setIfInBounds_toArray, List.set_cons_zero, List.set_cons_succ]
            refine wpAnyH_take (i := 7) (oi := { dst := some 35, op := Op.fieldAddr 84 (Operand.tmp 34) 1, type := 0, pos := "lane.go:58", after := #[{ on := 6, ground := Ground.data }, { on := 4, ground := Ground.guard }], guard := some (4, true) }) (v := undef) rfl (by kernel_rfl) (by kernel_rfl) (by kernel_rfl) (fun _ _ _ h => h) ?hy8 (by assumption) ?rest8
            case hy8 => (exact Or.inr ⟨by rfl, rfl⟩)
            try simp only [Act.put, List.setIfInBounds_toArray, List.set_cons_zero, List.set_cons_succ]
            refine wpAnyH_take (i := 8) (oi := { dst := some 36, op := Op.load 4 (Operand.tmp 35), type := 4, pos := "lane.go:58", after := #[{ on := 7, ground := Ground.data }, { on := 4, ground := Ground.guard }], guard := some (4, true) }) (v := undef) rfl (by kernel_rfl) (by kernel_rfl) (by kernel_rfl) (fun _ _ _ h => h) ?hy9 (by assumption) ?rest9
            case hy9 => (exact Or.inr ⟨by rfl, rfl⟩)
            try simp only [Act.put, List.setIfInBounds_toArray, List.set_cons_zero, List.set_cons_succ]
            refine wpAnyH_take (i := 9) (oi := { dst := some 37, op := Op.fieldAddr 106 (Operand.tmp 5) 1, type := 0, pos := "lane.go:58", after := #[{ on := 4, ground := Ground.guard }], guard := some (4, true) }) (v := undef) rfl (by kernel_rfl) (by kernel_rfl) (by kernel_rfl) (fun _ _ _ h => h) ?hy10 (by assumption) ?rest10
            case hy10 => (exact Or.inr ⟨by rfl, rfl⟩)
            try simp only [Act.put, List.setIfInBounds_toArray, List.set_cons_zero, List.set_cons_succ]
            refine wpAnyH_take (i := 10) (oi := { dst := some 38, op := Op.load 4 (Operand.tmp 37), type := 4, pos := "lane.go:58", after := #[{ on := 9, ground := Ground.data }, { on := 4, ground := Ground.guard }], guard := some (4, true) }) (v := undef) rfl (by kernel_rfl) (by kernel_rfl) (by kernel_rfl) (fun _ _ _ h => h) ?hy11 (by assumption) ?rest11
            case hy11 => (exact Or.inr ⟨by rfl, rfl⟩)
            try simp only [Act.put, List.setIfInBounds_toArray, List.set_cons_zero, List.set_cons_succ]
            refine wpAnyH_take (i := 11) (oi := { dst := some 39, op := Op.call { callee := Callee.value (Operand.func 65), args := #[Operand.tmp 36, Operand.tmp 38], argTypes := #[4, 4] }, type := 4, pos := "lane.go:58", after := #[{ on := 8, ground := Ground.data }, { on := 10, ground := Ground.data }, { on := 4, ground := Ground.chain }, { on := 4, ground := Ground.guard }], guard := some (4, true) }) (v := undef) rfl (by kernel_rfl) (by kernel_rfl) (by kernel_rfl) (fun _ _ _ h => h) ?hy12 (by assumption) ?rest12
            case hy12 => (exact Or.inr ⟨by rfl, rfl⟩)
            try simp only [Act.put, List.setIfInBounds_toArray, List.set_cons_zero, List.set_cons_succ]
            refine wpAnyH_take (i := 12) (oi := { dst := some 40, op := Op.unOp UnOp.not 4 (Operand.tmp 39), type := 4, pos := "lane.go:58", after := #[{ on := 11, ground := Ground.data }, { on := 4, ground := Ground.guard }], guard := some (4, true) }) (v := undef) rfl (by kernel_rfl) (by kernel_rfl) (by kernel_rfl) (fun _ _ _ h => h) ?hy13 (by assumption) ?rest13
            case hy13 => (exact Or.inr ⟨by rfl, rfl⟩)
            try simp only [Act.put, List.setIfInBounds_toArray, List.set_cons_zero, List.set_cons_succ]
            refine wpAnyH_take (i := 13) (oi := { dst := some 41, op := Op.pick (Operand.tmp 32) (Operand.tmp 40) (Operand.const (Value.bool false)), type := 4, pos := "lane.go:58", after := #[{ on := 4, ground := Ground.data }, { on := 12, ground := Ground.data }], guard := none }) (v := ?vv14) rfl (by kernel_rfl) (by kernel_rfl) (by kernel_rfl) (fun _ _ _ h => h) ?hy14 (by assumption) ?rest14
            case hy14 => (refine Or.inl ⟨by rfl, ?_⟩; intro W hSw; (try dsimp only at hSw); go_simp; (try with_reducible rfl))
            try simp only [Act.put, List.setIfInBounds_toArray, List.set_cons_zero, List.set_cons_succ]
            refine wpAnyH_done (by kernel_rfl) ?_ _
            clear hHeld
            go_wp2_with fail
            go_roundg (unseen (L.map fun m => (m.born, 0)) (seen.push m.born))
            case measure => have := HS2.out.2; omega
            case rel => exact ⟨seen.push m.born, E1, rfl, ⟨A3, c3, rfl, HR3.out.1.keep (w' := w3.drew) (Nat.le_refl _) (fun _ _ => rfl), HR3.out.2⟩, HS2.out.1, HI3.out, HX3.out, below_drew HB3.out⟩
          · have hb1 : (hd != c.who) = true := by simpa using hne
            have hb2 : (hd == c.who) = false := by simpa using hne
            obtain ⟨tg, htg⟩ : ∃ tg, togP l.mine c.mine = tg := ⟨_, rfl⟩
            have HTG := Lib.hid htg
            have HNE := Lib.hid hne
            clear hne htg
            go_wp2_with fail
            refine wp_region_held_drew (S := fun W => W.cell? ⟨bx, 0, none⟩ = some (.int .i64 c.who) ∧ W.cell? ⟨bx, 1, none⟩ = some (.bool c.mine) ∧ W.cell? ⟨b, 1, none⟩ = some (.bool l.mine)) (by kernel_rfl) ⟨p0, p1, p2⟩ (fun hHeld => ?_)
            refine wpAnyH_take (i := 0) (oi := { dst := some 28, op := Op.move (Operand.tmp 6), type := 3, pos := "lane.go:58", after := #[], guard := none }) (v := ?vv15) rfl (by kernel_rfl) (by kernel_rfl) (by kernel_rfl) (fun _ _ _ h => h) ?hy15 (by assumption) ?rest15
            case hy15 => (refine Or.inl ⟨by rfl, ?_⟩; intro W hSw; (try dsimp only at hSw); go_simp; (try with_reducible rfl))
            try simp only [Act.put, List.setIfInBounds_toArray, List.set_cons_zero, List.set_cons_succ]
            refine wpAnyH_take (i := 1) (oi := { dst := some 29, op := Op.fieldAddr 106 (Operand.tmp 5) 0, type := 0, pos := "lane.go:58", after := #[], guard := none }) (v := ?vv16) rfl (by kernel_rfl) (by kernel_rfl) (by kernel_rfl) (fun _ _ _ h => h) ?hy16 (by assumption) ?rest16
            case hy16 => (refine Or.inl ⟨by rfl, ?_⟩; intro W hSw; (try dsimp only at hSw); go_simp; (try with_reducible rfl))
            try simp only [Act.put, List.setIfInBounds_toArray, List.set_cons_zero, List.set_cons_succ]
            refine wpAnyH_take (i := 2) (oi := { dst := some 30, op := Op.load 3 (Operand.tmp 29), type := 3, pos := "lane.go:58", after := #[{ on := 1, ground := Ground.data }], guard := none }) (v := ?vv17) rfl (by kernel_rfl) (by kernel_rfl) (by kernel_rfl) (fun _ _ _ h => h) ?hy17 (by assumption) ?rest17
            case hy17 => (refine Or.inl ⟨by rfl, ?_⟩; intro W hSw; (try dsimp only at hSw); go_simp; (try with_reducible rfl))
            try simp only [Act.put, List.setIfInBounds_toArray, List.set_cons_zero, List.set_cons_succ]
            refine wpAnyH_take (i := 3) (oi := { dst := some 31, op := Op.binOp BinOp.neq 3 (Operand.tmp 28) (Operand.tmp 30) 3, type := 4, pos := "lane.go:58", after := #[{ on := 0, ground := Ground.data }, { on := 2, ground := Ground.data }], guard := none }) (v := (.bool true)) rfl (by kernel_rfl) (by kernel_rfl) (by kernel_rfl) (fun _ _ _ h => h) ?hy18 (by assumption) ?rest18
            case hy18 => ((refine Or.inl ⟨by rfl, ?_⟩; intro W hSw; (try dsimp only at hSw); go_simp; (first | done | with_reducible rfl | omega | simp_all)))
            try simp only [Act.put, List.setIfInBounds_toArray, List.set_cons_zero, List.set_cons_succ]
            refine wpAnyH_take (i := 4) (oi := { dst := some 32, op := Op.move (Operand.tmp 31), type := 4, pos := "lane.go:58", after := #[{ on := 3, ground := Ground.data }], guard := none }) (v := ?vv19) rfl (by kernel_rfl) (by kernel_rfl) (by kernel_rfl) (fun _ _ _ h => h) ?hy19 (by assumption) ?rest19
            case hy19 => (refine Or.inl ⟨by rfl, ?_⟩; intro W hSw; (try dsimp only at hSw); go_simp; (try with_reducible rfl))
            try simp only [Act.put, List.setIfInBounds_toArray, List.set_cons_zero, List.set_cons_succ]
            refine wpAnyH_take (i := 5) (oi := { dst := some 33, op := Op.move (Operand.tmp 0), type := 71, pos := "lane.go:58", after := #[{ on := 4, ground := Ground.guard }], guard := some (4, true) }) (v := ?vv20) rfl (by kernel_rfl) (by kernel_rfl) (by kernel_rfl) (fun _ _ _ h => h) ?hy20 (by assumption) ?rest20
            case hy20 => (refine Or.inl ⟨by rfl, ?_⟩; intro W hSw; (try dsimp only at hSw); go_simp; (try with_reducible rfl))
            try simp only [Act.put, List.setIfInBounds_toArray, List.set_cons_zero, List.set_cons_succ]
            refine wpAnyH_take (i := 6) (oi := { dst := some 34, op := Op.nilCheck (Operand.tmp 33), type := 0, pos := "lane.go:58", after := #[{ on := 5, ground := Ground.data }, { on := 4, ground := Ground.guard }], guard := some (4, true) }) (v := ?vv21) rfl (by kernel_rfl) (by kernel_rfl) (by kernel_rfl) (fun _ _ _ h => h) ?hy21 (by assumption) ?rest21
            case hy21 => (refine Or.inl ⟨by rfl, ?_⟩; intro W hSw; (try dsimp only at hSw); go_simp; (try with_reducible rfl))
            try simp only [Act.put, List.setIfInBounds_toArray, List.set_cons_zero, List.set_cons_succ]
            refine wpAnyH_take (i := 7) (oi := { dst := some 35, op := Op.fieldAddr 84 (Operand.tmp 34) 1, type := 0, pos := "lane.go:58", after := #[{ on := 6, ground := Ground.data }, { on := 4, ground := Ground.guard }], guard := some (4, true) }) (v := ?vv22) rfl (by kernel_rfl) (by kernel_rfl) (by kernel_rfl) (fun _ _ _ h => h) ?hy22 (by assumption) ?rest22
            case hy22 => (refine Or.inl ⟨by rfl, ?_⟩; intro W hSw; (try dsimp only at hSw); go_simp; (try with_reducible rfl))
            try simp only [Act.put, List.setIfInBounds_toArray, List.set_cons_zero, List.set_cons_succ]
            refine wpAnyH_take (i := 8) (oi := { dst := some 36, op := Op.load 4 (Operand.tmp 35), type := 4, pos := "lane.go:58", after := #[{ on := 7, ground := Ground.data }, { on := 4, ground := Ground.guard }], guard := some (4, true) }) (v := ?vv23) rfl (by kernel_rfl) (by kernel_rfl) (by kernel_rfl) (fun _ _ _ h => h) ?hy23 (by assumption) ?rest23
            case hy23 => (refine Or.inl ⟨by rfl, ?_⟩; intro W hSw; (try dsimp only at hSw); go_simp; (try with_reducible rfl))
            try simp only [Act.put, List.setIfInBounds_toArray, List.set_cons_zero, List.set_cons_succ]
            refine wpAnyH_take (i := 9) (oi := { dst := some 37, op := Op.fieldAddr 106 (Operand.tmp 5) 1, type := 0, pos := "lane.go:58", after := #[{ on := 4, ground := Ground.guard }], guard := some (4, true) }) (v := ?vv24) rfl (by kernel_rfl) (by kernel_rfl) (by kernel_rfl) (fun _ _ _ h => h) ?hy24 (by assumption) ?rest24
            case hy24 => (refine Or.inl ⟨by rfl, ?_⟩; intro W hSw; (try dsimp only at hSw); go_simp; (try with_reducible rfl))
            try simp only [Act.put, List.setIfInBounds_toArray, List.set_cons_zero, List.set_cons_succ]
            refine wpAnyH_take (i := 10) (oi := { dst := some 38, op := Op.load 4 (Operand.tmp 37), type := 4, pos := "lane.go:58", after := #[{ on := 9, ground := Ground.data }, { on := 4, ground := Ground.guard }], guard := some (4, true) }) (v := ?vv25) rfl (by kernel_rfl) (by kernel_rfl) (by kernel_rfl) (fun _ _ _ h => h) ?hy25 (by assumption) ?rest25
            case hy25 => (refine Or.inl ⟨by rfl, ?_⟩; intro W hSw; (try dsimp only at hSw); go_simp; (try with_reducible rfl))
            try simp only [Act.put, List.setIfInBounds_toArray, List.set_cons_zero, List.set_cons_succ]
            refine wpAnyH_ready (rs := [11]) (by kernel_rfl) (by simp) ?_
            refine AllReadyH.cons (o := { dst := some 39, op := Op.call { callee := Callee.value (Operand.func 65), args := #[Operand.tmp 36, Operand.tmp 38], argTypes := #[4, 4] }, type := 4, pos := "lane.go:58", after := #[{ on := 8, ground := Ground.data }, { on := 10, ground := Ground.data }, { on := 4, ground := Ground.chain }, { on := 4, ground := Ground.guard }], guard := some (4, true) }) rfl (fun K hK => ?step26) ?more26
            case more26 => exact AllReadyH.nil
            ((go_simp; go_at_call 65; refine (together_any _ _ _).mono ?_; rintro e w4 ⟨rfl, rfl⟩; rw [HTG.out]; go_wp2_with fail))
            refine hK.out _ _ ?hS26 (fun hHeld => ?rr26)
            case hS26 => (exact ⟨p0, p1, p2⟩)
            clear hK K
            try simp only [Act.put, List.setIfInBounds_toArray, List.set_cons_zero, List.set_cons_succ]
            refine wpAnyH_take (i := 12) (oi := { dst := some 40, op := Op.unOp UnOp.not 4 (Operand.tmp 39), type := 4, pos := "lane.go:58", after := #[{ on := 11, ground := Ground.data }, { on := 4, ground := Ground.guard }], guard := some (4, true) }) (v := ?vv27) rfl (by kernel_rfl) (by kernel_rfl) (by kernel_rfl) (fun _ _ _ h => h) ?hy27 (by assumption) ?rest27
            case hy27 => (refine Or.inl ⟨by rfl, ?_⟩; intro W hSw; (try dsimp only at hSw); go_simp; (try with_reducible rfl))
            try simp only [Act.put, List.setIfInBounds_toArray, List.set_cons_zero, List.set_cons_succ]
            refine wpAnyH_take (i := 13) (oi := { dst := some 41, op := Op.pick (Operand.tmp 32) (Operand.tmp 40) (Operand.const (Value.bool false)), type := 4, pos := "lane.go:58", after := #[{ on := 4, ground := Ground.data }, { on := 12, ground := Ground.data }], guard := none }) (v := ?vv28) rfl (by kernel_rfl) (by kernel_rfl) (by kernel_rfl) (fun _ _ _ h => h) ?hy28 (by assumption) ?rest28
            case hy28 => (refine Or.inl ⟨by rfl, ?_⟩; intro W hSw; (try dsimp only at hSw); go_simp; (try with_reducible rfl))
            try simp only [Act.put, List.setIfInBounds_toArray, List.set_cons_zero, List.set_cons_succ]
            refine wpAnyH_done (by kernel_rfl) ?_ _
            clear hHeld
            cases tg with
            | true =>
              have HS2 : Hid (EIn1 l c L E E1 (seen.push m.born) ∧ unseen (L.map fun m => (m.born, 0)) (seen.push m.born) + 1 = unseen (L.map fun m => (m.born, 0)) seen) := Lib.hid (by
                have := HST.out
                rwa [if_neg (fun e => by rw [HTG.out] at e; cases e.2)] at this)
              clear HST
              go_wp2_with fail
              go_roundg (unseen (L.map fun m => (m.born, 0)) (seen.push m.born))
              case measure => have := HS2.out.2; omega
              case rel => exact ⟨seen.push m.born, E1, rfl, ⟨A3, c3, rfl, HR3.out.1.keep (w' := w3.drew) (Nat.le_refl _) (fun _ _ => rfl), HR3.out.2⟩, HS2.out.1, HI3.out, HX3.out, below_drew HB3.out⟩
            | false =>
              have HS2 : Hid (EIn1 l c L E (E1 ++ [(c.who, hd)]) (seen.push m.born) ∧ unseen (L.map fun m => (m.born, 0)) (seen.push m.born) + 1 = unseen (L.map fun m => (m.born, 0)) seen) := Lib.hid (by
                have := HST.out
                rwa [if_pos ⟨HNE.out, HTG.out⟩] at this)
              clear HST
              have hel : E1.length ≤ 16777000 := by
                have h7 := HIN1.out.len
                have h8 := HOK.out.2
                have h9 := HLL.out
                have := HHL.out
                have := HRL.out
                have : k * (l.held.length + l.row.length) ≤ 1000 * 2000 := Nat.mul_le_mul (by have := HLT.out; omega) (by omega)
                omega
              obtain ⟨A4, c4, w4, hr4, hrow4, ho4, hb4, ht4⟩ := app_edge (w := w) (wr := w3.drew) c.who hd 46 (HR3.out.1.keep (w' := w3.drew) (Nat.le_refl _) (fun _ _ => rfl)) HR3.out.2 (fun g e => e.1) (fun g e => ⟨Nat.le_trans HB3.out.size e, .inr (Nat.lt_of_lt_of_le HI3.out.lt e)⟩) (below_drew HB3.out) hel
              have HR4 := Lib.hid (And.intro hrow4 (And.intro ho4 hb4))
              have HRUN := Lib.hid hr4
              have HI4 := Lib.hid (IterAt.keep _ HI3.out (ht4.block it HI3.out.lt (fun e => by have h7 := (HR3.out.2 _ e).2; have h8 := HIT.out; omega)))
              have HX4 := Lib.hid ((ht4.block bx (heap_lt HX3.out) (fun e => by have h7 := (HR3.out.2 _ e).2; have h8 := HIT.out; omega)).trans HX3.out)
              clear hr4 hrow4 ho4 hb4 ht4 hel p1 p2
              go_wp2_with (at_builtin; refine wpList_app_run rfl _ _ _ _ rfl rfl rfl HRUN.out ?_)
              go_roundg (unseen (L.map fun m => (m.born, 0)) (seen.push m.born))
              case measure => have := HS2.out.2; omega
              case rel => exact ⟨seen.push m.born, E1 ++ [(c.who, hd)], rfl, ⟨A4, c4, by simp, by simpa using HR4.out.1, by simpa using HR4.out.2.1⟩, HS2.out.1, HI4.out, HX4.out, HR4.out.2.2⟩
    · obtain rfl : k = l.row.length := by omega
      obtain ⟨A2, c2, rfl, _⟩ := id HROW.out
      have hn : ¬ (l.row.length : Int) < (l.row.length : Int) := by omega
      clear hk hbw hrow hok hlt
      go_wp2_with fail
      go_ret
      exact ⟨_, E, rfl, HROW.out, HOK.out, HBW.out⟩
end Go.Proofs.YtmchmlkbpocboaaGreatDoor
