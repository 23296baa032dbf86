/- The box: what is due, in plain words; a request is sent. The box: Due. -/
import Derived.Test.YtabfbnpbgdlinaaGreatDoorZFirA
set_option linter.unusedSimpArgs false
set_option linter.unusedVariables false
set_option linter.unnecessarySimpa false
namespace Go.Proofs.YtabfbnpbgdlinaaGreatDoor
open Go.RowKit Go.Shelf

/-- A message that is told, and where its lists lie. -/
structure Ot where
  m : MsgV
  tA : Option Addr
  tc : Nat
  oA : Option Addr
  oc : Nat
def Ot.c (o : Ot) : List Value := (cellM o.m o.tA o.tc o.oA o.oc).toList
theorem Ot.len (o : Ot) : o.c.length = 11 := rfl
theorem ots_len (l : List Ot) : (l.flatMap Ot.c).length = l.length * 11 := by
  induction l with
  | nil => rfl
  | cons o r ih => rw [List.flatMap_cons, List.length_append, ih, Ot.len, List.length_cons]; omega
/-- The requests, those of S sent now, as far as they were due. -/
def fireL (ev now : Int) (S : List Int) (L : List Rq) : List Rq := L.map fun e => if e.m.g ∈ S ∧ dueB ev now e = true then e.fired now else e
theorem fireL_nil (ev now : Int) (L : List Rq) : fireL ev now [] L = L := by
  unfold fireL
  simp
theorem fired_g (e : Rq) (now : Int) : (e.fired now).m = e.m := rfl
theorem fireL_get {ev now : Int} {S : List Int} {L : List Rq} {j : Nat} {x : Rq} (h : L[j]? = some x) (hx : x.m.g ∉ S) : (fireL ev now S L)[j]? = some x := by
  unfold fireL
  rw [List.getElem?_map, h]
  simp [hx]
theorem fireL_skip {ev now : Int} {S : List Int} {L : List Rq} {j : Nat} {x : Rq} (h : L[j]? = some x) (hinj : ∀ (i k : Nat) (a b : Rq), L[i]? = some a → L[k]? = some b → a.m.g = b.m.g → i = k) (hd : dueB ev now x = false) : fireL ev now (S ++ [x.m.g]) L = fireL ev now S L := by
  unfold fireL
  refine List.map_congr_left fun e he => ?_
  obtain ⟨i, hi⟩ := List.getElem?_of_mem he
  by_cases hg : e.m.g = x.m.g
  · have := hinj i j e x hi h hg
    subst this
    rw [hi] at h
    cases h
    simp [hd]
  · simp [hg]
theorem fireL_set {ev now : Int} {S : List Int} {L : List Rq} {j : Nat} {x : Rq} (h : L[j]? = some x) (hinj : ∀ (i k : Nat) (a b : Rq), L[i]? = some a → L[k]? = some b → a.m.g = b.m.g → i = k) (hd : dueB ev now x = true) : fireL ev now (S ++ [x.m.g]) L = (fireL ev now S L).set j (x.fired now) := by
  refine List.ext_getElem? fun i => ?_
  unfold fireL
  rw [List.getElem?_set, List.length_map]
  have hj := (List.getElem?_eq_some_iff.1 h).1
  by_cases hij : j = i
  · subst hij
    rw [if_pos rfl, if_pos hj, List.getElem?_map, h]
    simp [hd]
  · rw [if_neg hij, List.getElem?_map, List.getElem?_map]
    cases hi : L[i]? with
    | none => rfl
    | some e =>
      have hg : e.m.g ≠ x.m.g := fun hg => hij (hinj i j e x hi h hg).symm
      simp [hg]
theorem fireL_all {ev now : Int} {S : List Int} {L : List Rq} (h : ∀ e ∈ L, e.m.g ∈ S) : fireL ev now S L = L.map fun e => if dueB ev now e = true then e.fired now else e := by
  unfold fireL
  refine List.map_congr_left fun e he => ?_
  simp [h e he]
section
variable {w w' : World} {b mp : Nat} {ev : Int} {L : List Rq} {c : Nat} {R : Nat → Prop}
theorem BoxAt.fire (h : BoxAt w b mp ev L c R) {j : Nat} {x : Rq} (hj : L[j]? = some x) {now : Int} (ht : Touch (fun k => k = x.rb) w w') (hc : w'.heap[x.rb]? = some (.cells (x.fired now).cells 138 (0, 0))) : BoxAt w' b mp ev (L.set j (x.fired now)) c R := by
  have hx := List.mem_of_getElem? hj
  have hR := h.inR x hx
  have hmem : ∀ e ∈ L.set j (x.fired now), (e ∈ L ∧ e.rb ≠ x.rb) ∨ e = x.fired now := by
    intro e he
    obtain ⟨i, hi⟩ := List.getElem?_of_mem he
    rw [List.getElem?_set] at hi
    split at hi
    · split at hi
      · cases hi; exact .inr rfl
      · cases hi
    · rename_i hne
      exact .inl ⟨List.mem_of_getElem? hi, fun q => hne (h.one i j e x hi hj q).symm⟩
  have hT : ∀ e ∈ L, e.m.tl ≠ [] → ∀ a, e.tA = some a → ¬ a.block = x.rb := fun e he hl a ha q => (h.farT e he hl a ha).1 (q ▸ hR)
  have hO : ∀ e ∈ L, e.m.os ≠ [] → ∀ a, e.oA = some a → ¬ a.block = x.rb := fun e he hl a ha q => (h.farO e he hl a ha).1 (q ▸ hR)
  refine ⟨?_, ?_, fun e he => ?_, fun e he => ?_, fun e he => ?_, fun e he => ?_, fun e he => ?_, fun e he => ?_, fun e he => ?_, fun e he => ?_, fun k hk => ?_, h.offR, ?_⟩
  · exact (ht.block b (heap_lt h.head) (fun q => h.offR.2.1 (q ▸ hR))).trans h.head
  · have e1 : (L.set j (x.fired now)).map Rq.me = L.map Rq.me := by
      rw [map_set']
      refine List.ext_getElem? fun i => ?_
      rw [List.getElem?_set]
      split
      · rename_i hij
        subst hij
        rw [if_pos (by rw [List.length_map]; exact (List.getElem?_eq_some_iff.1 hj).1), List.getElem?_map, hj]
        rfl
      · rfl
    rw [e1]
    exact h.map.keep (ht.block mp h.map.lt (fun q => h.offR.1 (q ▸ hR)))
  · rcases hmem e he with ⟨h1, h2⟩ | rfl
    · exact (ht.block _ (heap_lt (h.req e h1)) h2).trans (h.req e h1)
    · exact hc
  · rcases hmem e he with ⟨h1, _⟩ | rfl
    · exact (h.tl e h1).touch ht (hT e h1)
    · exact (h.tl x hx).touch ht (hT x hx)
  · rcases hmem e he with ⟨h1, _⟩ | rfl
    · exact (h.os e h1).touch ht (hO e h1)
    · exact (h.os x hx).touch ht (hO x hx)
  · rcases hmem e he with ⟨h1, _⟩ | rfl
    · exact h.keys e h1
    · exact h.keys x hx
  · rcases hmem e he with ⟨h1, _⟩ | rfl
    · exact h.may e h1
    · exact h.may x hx
  · rcases hmem e he with ⟨h1, _⟩ | rfl
    · exact h.farT e h1
    · exact h.farT x hx
  · rcases hmem e he with ⟨h1, _⟩ | rfl
    · exact h.farO e h1
    · exact h.farO x hx
  · rcases hmem e he with ⟨h1, _⟩ | rfl
    · exact h.inR e h1
    · exact hR
  · exact Nat.lt_of_lt_of_le (h.ltR k hk) ht.size
  · intro p q a d ha hd hab
    have key : ∀ (p : Nat) (a : Rq), (L.set j (x.fired now))[p]? = some a → ∃ a', L[p]? = some a' ∧ a'.rb = a.rb := by
      intro p a ha
      rw [List.getElem?_set] at ha
      split at ha
      · rename_i hjp
        subst hjp
        split at ha
        · cases ha; exact ⟨x, hj, rfl⟩
        · cases ha
      · exact ⟨a, ha, rfl⟩
    obtain ⟨a', ha', e1⟩ := key p a ha
    obtain ⟨d', hd', e2⟩ := key q d hd
    exact h.one p q a' d' ha' hd' (by rw [e1, e2, hab])
end
theorem infoM : (Tryz.prog.info? 50).map (fun i => (i.zero, i.size, i.bytes)) = some (some zeroM, 11, 120) := by kernel_rfl
end Go.Proofs.YtabfbnpbgdlinaaGreatDoor

namespace Go.Proofs.YtabfbnpbgdlinaaGreatDoor
open Go.RowKit Go.Shelf

section
variable {w : World} {b mp : Nat} {ev : Int} {L : List Rq} {c : Nat} {R : Nat → Prop}
/-- What stands behind some rounds of Due: w1 is the world ahead of the loop, nv the row of those that are open. -/
structure DueM (w1 : World) (b mp : Nat) (ev now low : Int) (L : List Rq) (c : Nat) (R : Nat → Prop) (nv : Value) (ns : List Int) (i : Nat) (lv : Value) (wr : World) : Prop where
  box : BoxAt wr b mp ev (fireL ev now (ns.take i) L) c R
  row : ∃ outs : List Ot, RowIs wr 11 lv outs.length (outs.flatMap Ot.c) ∧ (∀ o ∈ outs, o.m.lw = low) ∧ outs.map (·.m.g) = (ns.take i).filter (fun g => L.any fun e => decide (e.m.g = g) && dueB ev now e)
  own : ∀ g, lv.ownBlock = some g → w1.heap.size ≤ g
  nums : RowIs wr 1 nv ns.length (ns.map (Value.int .i64))
  touch : Touch R w1 wr
/-- What Due leaves. -/
def DueP (w : World) (b mp : Nat) (ev now low : Int) (L : List Rq) (c : Nat) (R : Nat → Prop) (e : Ending) (w' : World) : Prop :=
  ∃ (v : Value) (outs : List Ot), e = .returned v ∧ BoxAt w' b mp ev (L.map fun e => if dueB ev now e = true then e.fired now else e) c R ∧ RowIs w' 11 v outs.length (outs.flatMap Ot.c) ∧ (∀ g, v.ownBlock = some g → w.heap.size ≤ g) ∧ (∀ o ∈ outs, o.m.lw = low) ∧
    (∃ ns : List Int, ns.Perm (L.map (·.m.g)) ∧ outs.map (·.m.g) = ns.filter (fun g => L.any fun e => decide (e.m.g = g) && dueB ev now e)) ∧ Touch R w w'
theorem any_due {now : Int} {j : Nat} {x : Rq} (h : L[j]? = some x) (hinj : ∀ (i k : Nat) (a b : Rq), L[i]? = some a → L[k]? = some b → a.m.g = b.m.g → i = k) : (L.any fun e => decide (e.m.g = x.m.g) && dueB ev now e) = dueB ev now x := by
  cases hd : dueB ev now x with
  | true => exact List.any_eq_true.2 ⟨x, List.mem_of_getElem? h, by simp [hd]⟩
  | false =>
    rw [List.any_eq_false]
    intro e he
    obtain ⟨i, hi⟩ := List.getElem?_of_mem he
    by_cases hg : e.m.g = x.m.g
    · have := hinj i j e x hi h hg
      subst this
      rw [hi] at h
      cases h
      simp [hd]
    · simp [hg]
theorem take_one {α : Type} {l : List α} {i : Nat} {a : α} (h : l[i]? = some a) : l.take (i + 1) = l.take i ++ [a] := by
  rw [List.take_add_one, h]
  rfl
theorem not_taken {l : List Int} (hn : l.Nodup) {i : Nat} {a : Int} (h : l[i]? = some a) : a ∉ l.take i := by
  intro hm
  obtain ⟨k, hk⟩ := List.getElem?_of_mem hm
  rw [List.getElem?_take] at hk
  split at hk
  · rename_i hlt
    have h1 := (List.getElem?_eq_some_iff.1 hk).1
    have h2 := (List.getElem?_eq_some_iff.1 h).1
    have := (List.getElem_inj hn (h₀ := h1) (h₁ := h2)).1 (by rw [(List.getElem?_eq_some_iff.1 hk).2, (List.getElem?_eq_some_iff.1 h).2])
    omega
  · cases hk
theorem BoxAt.gs (h : BoxAt w b mp ev L c R) : (L.map (·.m.g)).Nodup := by
  have h1 : ((L.map (·.m.g)).map (Value.int .i64)).Nodup := by
    have h2 := h.map.one
    rw [List.map_map] at h2 ⊢
    exact h2
  exact (List.pairwise_map.1 h1).imp (fun hne e => hne (by rw [e]))
theorem NumsAt.lt {w : World} {A : Option Addr} {n c : Nat} {l : List Int} (h : NumsAt w (.slice A n c) l) (hl : l ≠ []) : ∀ a, A = some a → a.block < w.heap.size := by
  rintro a rfl
  obtain ⟨A', c', e', _, _, h4⟩ := h
  cases l with
  | nil => exact absurd rfl hl
  | cons x r =>
    obtain ⟨a', q1, q2, _⟩ := h4 0 x rfl
    injection e' with e'
    rw [q1] at e'
    cases e'
    exact q2
theorem OpsAt.lt {w : World} {A : Option Addr} {n c : Nat} {l : List OpV} (h : OpsAt w (.slice A n c) l) (hl : l ≠ []) : ∀ a, A = some a → a.block < w.heap.size := by
  rintro a rfl
  obtain ⟨A', c', e', _, _, h4⟩ := h.form
  cases l with
  | nil => exact absurd rfl hl
  | cons x r =>
    obtain ⟨a', q1, q2, _⟩ := h4 0 x rfl
    injection e' with e'
    rw [q1] at e'
    cases e'
    exact q2
theorem BoxAt.keepF (h0 : BoxAt w b mp ev L c R) {W W' : World} {now : Int} {S : List Int} (h : BoxAt W b mp ev (fireL ev now S L) c R) {T : Nat → Prop} (ht : Touch T W W') (hT : ∀ k, T k → w.heap.size ≤ k) : BoxAt W' b mp ev (fireL ev now S L) c R := by
  have hno : ∀ k, k < w.heap.size → ¬ T k := fun k hk hq => by have := hT k hq; omega
  have hof : ∀ e ∈ fireL ev now S L, ∃ e0 ∈ L, e.m = e0.m ∧ e.tA = e0.tA ∧ e.oA = e0.oA := by
    intro e he
    obtain ⟨e0, h1, rfl⟩ := List.mem_map.1 he
    refine ⟨e0, h1, ?_⟩
    split <;> exact ⟨rfl, rfl, rfl⟩
  refine h.keep ht (hno _ (heap_lt h0.head)) (hno _ h0.map.lt) (fun k hk => hno _ (h0.ltR k hk)) (fun e he hl a ha => ?_) (fun e he hl a ha => ?_)
  · obtain ⟨e0, h1, h2, h3, _⟩ := hof e he
    exact hno _ ((h0.tl e0 h1).lt (by rw [← h2]; exact hl) a (by rw [← h3]; exact ha))
  · obtain ⟨e0, h1, h2, _, h3⟩ := hof e he
    exact hno _ ((h0.os e0 h1).lt (by rw [← h2]; exact hl) a (by rw [← h3]; exact ha))
set_option maxRecDepth 100000 in
set_option maxHeartbeats 8000000 in
theorem due_any (h : BoxAt w b mp ev L c R) (hL : L.length ≤ 1000000) {now low : Int} (h0 : 0 ≤ now) (h1 : now ≤ 1099511627776) (h2 : 1 ≤ low) (h3 : low ≤ 1048577) (hlast : ∀ e ∈ L, e.sent = true → 0 ≤ e.last ∧ e.last ≤ 1099511627776) :
    Calls Tryz.prog 40 #[.pointer (some ⟨b, 0, none⟩), .int .i64 now, .int .i64 low] w (DueP w b mp ev now low L c R) := by
  have HW1 := Lib.hid (fun W => pwithin_ok (w := W) h0 h1)
  have HW2 := Lib.hid (fun W => pwithin_ok (w := W) h2 h3)
  have HOP := Lib.hid (open_any h hL)
  have HLA := Lib.hid hlast
  have HBX := Lib.hid h
  have HNB := Lib.hid (And.intro (And.intro h0 h1) (And.intro h2 h3))
  clear h hlast h0 h1 h2 h3
  go_enter Tryz.func40, Tryz.ntmps40
  go_wp2_with fail
  refine (HW1.out _).mono ?_
  rintro e w1 ⟨rfl, rfl⟩
  go_wp2_with fail
  refine (HW2.out _).mono ?_
  rintro e w2 ⟨rfl, rfl⟩
  go_wp2_with fail
  refine (HOP.out).mono ?_
  rintro e w3 ⟨nv, ns, rfl, hrow, hperm, hsort, hown, hb3⟩
  obtain ⟨nA, nc, rfl, hn1, hn2, hn3, hn4, hn5⟩ := hrow.form
  unfold maxLen at hn2
  have hlen : ns.length = L.length := by have := hperm.length_eq; simpa using this
  have hnd : ns.Nodup := hperm.nodup_iff.2 HBX.out.gs
  have hfind : ∀ (i : Nat) (g : Int), ns[i]? = some g → ∃ (j : Nat) (x : Rq), L[j]? = some x ∧ x.m.g = g := fun i g hi => by
    obtain ⟨x, hx, hg⟩ := List.mem_map.1 (hperm.mem_iff.1 (List.mem_of_getElem? hi))
    obtain ⟨j, hj⟩ := List.getElem?_of_mem hx
    exact ⟨j, x, hj, hg⟩
  have hall : ∀ e ∈ L, e.m.g ∈ ns := fun e he => hperm.mem_iff.2 (List.mem_map.2 ⟨e, he, rfl⟩)
  have hstart : DueM w3 b mp ev now low L c R (.slice nA ns.length nc) ns 0 (.slice none 0 0) w3 := ⟨by rw [List.take_zero, fireL_nil]; exact HBX.out.below hb3, ⟨[], RowIs.nil _ _, by simp, by simp⟩, fun g e => (by cases e), hrow, Touch.refl _ _⟩
  obtain ⟨n, hn⟩ : ∃ n, ns.length = n := ⟨_, rfl⟩
  have HST := Lib.hid hstart
  have HND := Lib.hid hnd
  have HFI := Lib.hid hfind
  have HAL := Lib.hid hall
  have HPM := Lib.hid hperm
  have HOW := Lib.hid hown
  have HB3 := Lib.hid hb3
  have HN := Lib.hid hn
  have HN4 := Lib.hid hn4
  have hnI : (n : Int) ≤ 1000000 := by omega
  rw [hn] at hn1 HST ⊢
  have HLN := Lib.hid hlen
  have HGL : Hid (∀ g, nA = some ⟨g, 0, none⟩ → g < w3.heap.size) := Lib.hid (fun g e => hrow.lt g (by rw [e]; rfl))
  clear hstart hnd hfind hall hrow hperm hown hb3 hn hn3 hn4 hn5 hlen hsort HW1 HW2 HOP
  go_wp2_with fail
  go_loopw [7, 23] (fun lv iv wr => ∃ i : Nat, i ≤ n ∧ iv = .int .i64 i ∧ DueM w3 b mp ev now low L c R (.slice nA n nc) ns i lv wr) (fun _ iv _ => n - (intOf iv).toNat)
  case atStart => exact ⟨0, Nat.zero_le _, rfl, HST.out⟩
  case round =>
    obtain ⟨i, hi, rfl, hM⟩ := hrel
    by_cases hlt : i < n
    · obtain ⟨g, hg⟩ : ∃ g, ns[i]? = some g := ⟨_, List.getElem?_eq_getElem (by rw [HN.out]; exact hlt)⟩
      obtain ⟨j, x, hj, rfl⟩ := HFI.out i g hg
      have hnot := not_taken HND.out hg
      have hinj : ∀ (i k : Nat) (a b : Rq), L[i]? = some a → L[k]? = some b → a.m.g = b.m.g → i = k := fun i k a b ha hb hab => HBX.out.inj ha hb hab
      have hget := fireL_get (ev := ev) (now := now) hj hnot
      have hx : x ∈ fireL ev now (ns.take i) L := List.mem_of_getElem? hget
      obtain ⟨A', c', e1, _, _, _, _, h5⟩ := hM.nums.form
      obtain ⟨gn, hA, kn⟩ := h5 i (.int .i64 x.m.g) (by rw [List.getElem?_map, hg]; rfl)
      injection e1 with e1 e2 e3
      clear e2 e3
      obtain rfl := e1.trans hA
      have kb0 := cell_of hM.box.head 0
      have kb1 := cell_of hM.box.head 1
      simp at kb0 kb1
      have qL := hM.box.look hget rfl
      have hla := HLA.out x (List.mem_of_getElem? hj)
      have hnb := HNB.out.1
      have HDU := Lib.hid (pdue_any hM.box hx (now := now) (fun hs => by have := hla hs; omega))
      have HSE := Lib.hid (psend_any hM.box hx (now := now))
      have htk := take_one hg
      have hany := any_due (ev := ev) (now := now) hj hinj
      obtain ⟨outs, hr, hlw, hgs⟩ := hM.row
      obtain ⟨lA, lc, rfl, _⟩ := hr.form
      have hol : outs.length ≤ 1000000 := by
        have h1 : outs.length ≤ i := by
          have e2 := congrArg List.length hgs
          rw [List.length_map] at e2
          rw [e2]
          exact Nat.le_trans (List.length_filter_le _ _) (by rw [List.length_take]; omega)
        omega
      have HM := Lib.hid hM
      have HR := Lib.hid (And.intro hr (And.intro hlw hgs))
      have HG := Lib.hid (And.intro hj (And.intro hinj (And.intro hget htk)))
      have hiI : (i : Int) < (n : Int) := by omega
      have HLT := Lib.hid hlt
      obtain ⟨db, hdb⟩ : ∃ d, dueB ev now x = d := ⟨_, rfl⟩
      rw [hdb] at HDU
      have HDB := Lib.hid hdb
      have HANY := Lib.hid hany
      have HGN : Hid (gn < w3.heap.size) := Lib.hid (HGL.out gn rfl)
      clear hM hg hj hnot hinj hget hx h5 hA e1 hla hnb htk hany hr hlw hgs hdb hlt hi
      cases db with
      | false =>
        go_wp2_with fail
        refine (HDU.out).mono ?_
        rintro e w4 ⟨rfl, rfl⟩
        go_wp2_with fail
        go_roundw
        case rel =>
          refine ⟨i + 1, HLT.out, by go_num, ?_, ⟨outs, HR.out.1, HR.out.2.1, ?_⟩, HM.out.own, HM.out.nums, HM.out.touch⟩
          · rw [HG.out.2.2.2, fireL_skip HG.out.1 HG.out.2.1 HDB.out]; exact HM.out.box
          · rw [HG.out.2.2.2, List.filter_append, HR.out.2.2]
            simp [HANY.out, HDB.out]
        case measure => have := HLT.out; simp [intOf]; omega
      | true =>
        go_wp2_with fail
        refine (HDU.out).mono ?_
        rintro e w4 ⟨rfl, rfl⟩
        go_wp2_with fail
        refine (HSE.out).mono ?_
        rintro e w5 ⟨v5, rfl, ho5, ht5, hc5⟩
        obtain ⟨tA, tc, oA, oc, rfl, _⟩ := ho5
        have hrbR : R x.rb := HBX.out.inR x (List.mem_of_getElem? HG.out.1)
        have hrb2 : x.rb < w2.heap.size := HBX.out.ltR _ hrbR
        have hbox5 : BoxAt w5 b mp ev (fireL ev now (ns.take (i + 1)) L) c R := by
          rw [HG.out.2.2.2, fireL_set HG.out.1 HG.out.2.1 HDB.out]
          exact HM.out.box.fire HG.out.2.2.1 ht5 hc5
        have hb6 := below_new (w := w5) (.cells #[.int .i64 x.m.kd, .int .i64 x.m.fr, .int .i64 x.m.tt, .int .i64 x.m.g, .int .i64 x.m.nd, .int .i64 x.m.tr, .int .i64 low, .int .i64 x.m.co, .int .i64 x.m.ti, .slice tA x.m.tl.length tc, .slice oA x.m.os.length oc] 50)
        have hb7 := below_new (w := w5.alloc (.cells #[.int .i64 x.m.kd, .int .i64 x.m.fr, .int .i64 x.m.tt, .int .i64 x.m.g, .int .i64 x.m.nd, .int .i64 x.m.tr, .int .i64 low, .int .i64 x.m.co, .int .i64 x.m.ti, .slice tA x.m.tl.length tc, .slice oA x.m.os.length oc] 50)) (.cells #[.int .i64 x.m.kd, .int .i64 x.m.fr, .int .i64 x.m.tt, .int .i64 x.m.g, .int .i64 x.m.nd, .int .i64 x.m.tr, .int .i64 low, .int .i64 x.m.co, .int .i64 x.m.ti, .slice tA x.m.tl.length tc, .slice oA x.m.os.length oc] 50)
        have hat7 := alloc_at (w5.alloc (.cells #[.int .i64 x.m.kd, .int .i64 x.m.fr, .int .i64 x.m.tt, .int .i64 x.m.g, .int .i64 x.m.nd, .int .i64 x.m.tr, .int .i64 low, .int .i64 x.m.co, .int .i64 x.m.ti, .slice tA x.m.tl.length tc, .slice oA x.m.os.length oc] 50)) (.cells #[.int .i64 x.m.kd, .int .i64 x.m.fr, .int .i64 x.m.tt, .int .i64 x.m.g, .int .i64 x.m.nd, .int .i64 x.m.tr, .int .i64 low, .int .i64 x.m.co, .int .i64 x.m.ti, .slice tA x.m.tl.length tc, .slice oA x.m.os.length oc] 50)
        have hb57 : Below w5.heap.size w5 ((w5.alloc (.cells #[.int .i64 x.m.kd, .int .i64 x.m.fr, .int .i64 x.m.tt, .int .i64 x.m.g, .int .i64 x.m.nd, .int .i64 x.m.tr, .int .i64 low, .int .i64 x.m.co, .int .i64 x.m.ti, .slice tA x.m.tl.length tc, .slice oA x.m.os.length oc] 50)).alloc (.cells #[.int .i64 x.m.kd, .int .i64 x.m.fr, .int .i64 x.m.tt, .int .i64 x.m.g, .int .i64 x.m.nd, .int .i64 x.m.tr, .int .i64 low, .int .i64 x.m.co, .int .i64 x.m.ti, .slice tA x.m.tl.length tc, .slice oA x.m.os.length oc] 50)) := hb6.trans (hb7.mono hb6.size)
        have hsz5 : w3.heap.size ≤ w5.heap.size := Nat.le_trans HM.out.touch.size ht5.size
        have hrow7 : RowIs ((w5.alloc (.cells #[.int .i64 x.m.kd, .int .i64 x.m.fr, .int .i64 x.m.tt, .int .i64 x.m.g, .int .i64 x.m.nd, .int .i64 x.m.tr, .int .i64 low, .int .i64 x.m.co, .int .i64 x.m.ti, .slice tA x.m.tl.length tc, .slice oA x.m.os.length oc] 50)).alloc (.cells #[.int .i64 x.m.kd, .int .i64 x.m.fr, .int .i64 x.m.tt, .int .i64 x.m.g, .int .i64 x.m.nd, .int .i64 x.m.tr, .int .i64 low, .int .i64 x.m.co, .int .i64 x.m.ti, .slice tA x.m.tl.length tc, .slice oA x.m.os.length oc] 50)) 11 (.slice lA outs.length lc) outs.length (outs.flatMap Ot.c) := (HR.out.1.touch ht5 (fun g hg q => by have := HM.out.own g hg; have := HB3.out.size; omega)).below hb57
        obtain ⟨v8, w8, hr8, hrow8, hg8, hblk8⟩ := run_append_row ((w5.alloc (.cells #[.int .i64 x.m.kd, .int .i64 x.m.fr, .int .i64 x.m.tt, .int .i64 x.m.g, .int .i64 x.m.nd, .int .i64 x.m.tr, .int .i64 low, .int .i64 x.m.co, .int .i64 x.m.ti, .slice tA x.m.tl.length tc, .slice oA x.m.os.length oc] 50)).alloc (.cells #[.int .i64 x.m.kd, .int .i64 x.m.fr, .int .i64 x.m.tt, .int .i64 x.m.g, .int .i64 x.m.nd, .int .i64 x.m.tr, .int .i64 low, .int .i64 x.m.co, .int .i64 x.m.ti, .slice tA x.m.tl.length tc, .slice oA x.m.os.length oc] 50)) 73 50 73 73 Tryz.underlying73 infoM rfl (by omega) (by omega) (.slice lA outs.length lc) outs.length 1 (outs.flatMap Ot.c) ([.int .i64 x.m.kd, .int .i64 x.m.fr, .int .i64 x.m.tt, .int .i64 x.m.g, .int .i64 x.m.nd, .int .i64 x.m.tr, .int .i64 low, .int .i64 x.m.co, .int .i64 x.m.ti, .slice tA x.m.tl.length tc, .slice oA x.m.os.length oc]) (.slice (some ⟨w5.heap.size + 1, 0, none⟩) 1 1) hrow7
          (Src.ofSlice _ Tryz.underlying73 ⟨w5.heap.size + 1, 0, none⟩ 1 1 ([.int .i64 x.m.kd, .int .i64 x.m.fr, .int .i64 x.m.tt, .int .i64 x.m.g, .int .i64 x.m.nd, .int .i64 x.m.tr, .int .i64 low, .int .i64 x.m.co, .int .i64 x.m.ti, .slice tA x.m.tl.length tc, .slice oA x.m.os.length oc]) rfl (fun k u hu => by
            rw [asz] at hat7
            rw [add0, cell_of hat7 k]
            simpa using hu) (by simp [Value.oneCell'])) (by omega)
        have hown8 : ∀ g, v8.ownBlock = some g → w3.heap.size ≤ g := fun g hg => by
          rcases hblk8 with e | e
          · exact HM.out.own g (by rw [← e]; exact hg)
          · rw [hg] at e
            injection e with e
            rw [asz, asz] at e
            omega
        have htR : Touch R w3 w8 := by
          have t1 : Touch R w3 w5 := HM.out.touch.trans ht5 (fun k _ e => by rw [e]; exact hrbR)
          have t2 := t1.after hb57
          exact t2.grown hg8 (fun k e hk => by have := HM.out.own k e; omega)
        have hT8 : Touch (fun k => (Value.slice lA outs.length lc).ownBlock = some k) w5 w8 := ((Touch.refl _ _).after hb57).grown hg8 (fun k e _ => e)
        have hbox8 : BoxAt w8 b mp ev (fireL ev now (ns.take (i + 1)) L) c R := HBX.out.keepF hbox5 hT8 (fun k e => by have := HM.out.own k e; have := HB3.out.size; omega)
        have hnum8 : RowIs w8 1 (.slice (some ⟨gn, 0, none⟩) n nc) ns.length (ns.map (Value.int .i64)) := by
          refine (HM.out.nums.touch ht5 (fun g hg q => ?_)).touch hT8 (fun g hg q => ?_)
          · have := HOW.out g hg; omega
          · have h1 := HM.out.own g q
            have h2 : g = gn := by cases hg; rfl
            have h3 := HGN.out
            omega
        have hfl : outs.map (·.m.g) ++ [x.m.g] = (ns.take (i + 1)).filter (fun g => L.any fun e => decide (e.m.g = g) && dueB ev now e) := by
          rw [HG.out.2.2.2, List.filter_append, HR.out.2.2]
          simp [HANY.out, HDB.out]
        have HFIN : Hid (DueM w3 b mp ev now low L c R (.slice (some ⟨gn, 0, none⟩) n nc) ns (i + 1) v8 w8) := Lib.hid ⟨hbox8, ⟨outs ++ [⟨⟨x.m.kd, x.m.fr, x.m.tt, x.m.g, x.m.nd, x.m.tr, low, x.m.co, x.m.ti, x.m.tl, x.m.os⟩, tA, tc, oA, oc⟩], by rw [List.length_append, List.flatMap_append]; simpa [Ot.c] using hrow8, fun o ho => by
            rcases List.mem_append.1 ho with h | h
            · exact HR.out.2.1 o h
            · rw [List.mem_singleton.1 h], by rw [List.map_append]; exact hfl⟩, hown8, hnum8, htR⟩
        obtain ⟨A8, c8, rfl, _⟩ := id hrow8.form
        clear hrbR hrb2 hbox5 hb6 hb7 hat7 hb57 hsz5 hrow7 hrow8 hg8 hblk8 hown8 htR hT8 hbox8 hnum8 hfl ht5 hc5
        go_wp2_with (at_builtin; refine wpList_app_run rfl _ _ _ _ rfl rfl rfl hr8 ?_)
        go_roundw
        case rel => exact ⟨i + 1, HLT.out, by go_num, HFIN.out⟩
        case measure => have := HLT.out; simp [intOf]; omega
    · obtain rfl : i = n := by omega
      obtain ⟨outs, hr, hlw, hgs⟩ := hM.row
      obtain ⟨lA, lc, rfl, _⟩ := hr.form
      have HM := Lib.hid hM
      have HR := Lib.hid (And.intro hr (And.intro hlw hgs))
      clear hM hr hlw hgs
      go_wp2_with fail
      go_ret
      refine ⟨_, outs, rfl, ?_, HR.out.1, fun g hg => Nat.le_trans HB3.out.size (HM.out.own g hg), HR.out.2.1, ⟨ns, HPM.out, ?_⟩, Touch.ahead HB3.out HM.out.touch⟩
      · have h1 := HM.out.box
        rw [List.take_of_length_le (by rw [HN.out]; omega), fireL_all HAL.out] at h1
        exact h1
      · rw [HR.out.2.2, List.take_of_length_le (by rw [HN.out]; omega)]
end
end Go.Proofs.YtabfbnpbgdlinaaGreatDoor
