/- lock: a lane is served, beside what the document does with the claims of one key. lock: tables: what is alike, and Ask. Rising lists: what is put in, and that they are one. Nothing here speaks of the program. lock: Release, beside the document's. -/
import Derived.Test.YtmchmlkbpocboaaGreatDoorZLpA
set_option linter.unusedSimpArgs false
set_option linter.unusedVariables false
set_option linter.unnecessarySimpa false
namespace Go.Proofs.YtmchmlkbpocboaaGreatDoor

/-- What holds of a lane while it is served. -/
structure LnMid (l : Ln) : Prop where
  nodup : (l.row.map Cm.who).Nodup
  tog : l.mine = true → ∀ x ∈ l.held, ∀ y ∈ l.held, x = y
  front : l.row.Pairwise fun a b => b.who ∈ l.held → a.who ∈ l.held
  raise : ∀ c ∈ l.row, c.who ∈ l.held → c.mine = true
theorem LnOk.mid {l : Ln} (h : LnOk l) : LnMid l := ⟨h.nodup, h.tog, h.front, h.raise⟩
theorem ln0_ok : LnOk ln0 := ⟨List.nodup_nil, (fun h => by cases h), (fun c h => by cases h), List.Pairwise.nil, fun c h => by cases h⟩
theorem give_mem {l : Ln} {c : Cm} {x : Int} : x ∈ (giveP l c).held ↔ x ∈ l.held ∨ x = c.who := by
  unfold giveP
  by_cases e : c.who ∈ l.held
  · simp only [e, if_true]
    exact ⟨.inl, fun h => h.elim id (fun e2 => e2 ▸ e)⟩
  · simp only [e, if_false]
    rw [List.mem_append, List.mem_singleton]
theorem LnMid.give {l : Ln} {c : Cm} (h : LnMid l) (hl : letsP l c = true) (hc : c.who ∉ l.row.map Cm.who) : LnMid (giveP l c) := by
  have hmr : ∀ d ∈ l.row, d.who ∈ (giveP l c).held ↔ d.who ∈ l.held := fun d hd => by
    rw [give_mem]
    exact ⟨fun h => h.resolve_right (fun e => hc (e ▸ List.mem_map.2 ⟨d, hd, rfl⟩)), .inl⟩
  refine ⟨h.nodup, fun hm x hx y hy => ?_, ?_, fun d hd hh => h.raise d hd ((hmr d hd).1 hh)⟩
  · have hm : c.mine = true := hm
    rcases lets_iff.1 hl with h5 | h5
    · have e : ∀ z, z ∈ (giveP l c).held → z = c.who := fun z hz => (give_mem.1 hz).elim (h5 z) id
      rw [e x hx, e y hy]
    · rw [h5.2] at hm; cases hm
  · show l.row.Pairwise _
    refine (List.Pairwise.and_mem.1 h.front).imp fun {a b} hab => ?_
    intro hb
    exact (hmr a hab.1).2 (hab.2.2 ((hmr b hab.2.1).1 hb))
theorem strike_mem {l : Ln} {who x : Int} : x ∈ (strikeP l who).held ↔ x ∈ l.held ∧ x ≠ who := by
  unfold strikeP
  simp
theorem LnMid.strike {l : Ln} (h : LnMid l) (who : Int) : LnMid (strikeP l who) := by
  refine ⟨(List.filter_sublist.map _).nodup h.nodup, fun hm x hx y hy => h.tog hm x (strike_mem.1 hx).1 y (strike_mem.1 hy).1, ?_, fun c hc hh => h.raise c (List.mem_filter.1 hc).1 (strike_mem.1 hh).1⟩
  refine (List.Pairwise.and_mem.1 (h.front.sublist List.filter_sublist)).imp fun {a b} hab => ?_
  intro hb
  have ha := (List.mem_filter.1 hab.1).2
  exact strike_mem.2 ⟨hab.2.2 (strike_mem.1 hb).1, by simpa using ha⟩
theorem nodup_who {L : List Cl} (h : (L.map Cl.who).Nodup) {c d : Cl} (hc : c ∈ L) (hd : d ∈ L) (e : c.who = d.who) : c = d := by
  induction L with
  | nil => cases hc
  | cons x L ih =>
    rw [List.map_cons, List.nodup_cons] at h
    rcases List.mem_cons.1 hc with hc | hc
    · rcases List.mem_cons.1 hd with hd | hd
      · rw [hc, hd]
      · exact absurd (by rw [← hc, e]; exact List.mem_map.2 ⟨d, hd, rfl⟩) h.1
    · rcases List.mem_cons.1 hd with hd | hd
      · exact absurd (by rw [← hd, ← e]; exact List.mem_map.2 ⟨c, hc, rfl⟩) h.1
      · exact ih h.2 hc hd
theorem rdrop_one {L : List Cl} (h : (L.map Cl.who).Nodup) {c : Cl} (hc : c ∈ L) : rdrop L c.who c.key false = L.filter fun d => d.who != c.who := by
  unfold rdrop
  refine List.filter_congr fun d hd => ?_
  by_cases e : d.who = c.who
  · have := nodup_who h hd hc e
    subst this
    simp
  · have e2 : (d.who != c.who) = true := by simpa using e
    rw [e2]; rfl
theorem ofKey_filter {L : List Cl} {k : KeyT} (p : Cl → Bool) : ofKey (L.filter p) k = (ofKey L k).filter p := by
  unfold ofKey
  rw [List.filter_filter, List.filter_filter]
  exact List.filter_congr fun c _ => Bool.and_comm _ _
theorem ofKey_sub (L : List Cl) (k : KeyT) : (ofKey L k).Sublist L := List.filter_sublist
/-- The first one of a row is taken out of it. -/
theorem head_sim {l : Ln} {H L : List Cl} {k : KeyT} {c : Cl} {r : List Cm} (h : LSim l H L k) (hn : (L.map Cl.who).Nodup) (hc : (ofKey L k).head? = some c) (hr : l.row = cmOf c :: r) : LSim { l with row := r } H (L.filter fun d => d.who != c.who) k := by
  cases ho : ofKey L k with
  | nil => rw [ho] at hc; cases hc
  | cons c' t =>
    rw [ho] at hc
    cases hc
    have hnt : ((ofKey L k).map Cl.who).Nodup := ((ofKey_sub L k).map _).nodup hn
    rw [ho, List.map_cons, List.nodup_cons] at hnt
    refine ⟨h.held, ?_, fun d hd hk => h.raise d (List.mem_filter.1 hd).1 hk⟩
    have hrow := h.row
    rw [hr, ho, List.map_cons] at hrow
    injection hrow with _ hrow
    show r = _
    rw [ofKey_filter, ho, List.filter_cons, if_neg (by simp), List.filter_eq_self.2 (fun d hd => ?_), hrow]
    rw [bne_iff_ne]
    intro e
    exact hnt.1 (e ▸ List.mem_map.2 ⟨d, hd, rfl⟩)
/-- What a service leaves: a beginning A of the row has the key now. -/
structure Served (l : Ln) (R : RT) (k : KeyT) (o : List Int) (p : Ln × List Int) (q : RT × List Int) : Prop where
  sim : LSim p.1 q.1.held q.1.line k
  ok : LnOk p.1
  out : q.2 = p.2.foldl kin o
  line : q.1.line = R.line.filter fun c => !(p.2.contains c.who)
  other : ∀ c : Cl, c.key ≠ k → (c ∈ q.1.held ↔ c ∈ R.held)
  heldOf : ∀ c ∈ q.1.held, c ∈ R.held ∨ ∃ d ∈ R.line, d.who = c.who ∧ d.key = c.key
  row : ∃ A, l.row = A ++ p.1.row ∧ p.2 = A.map Cm.who
  held : ∀ x, x ∈ p.1.held ↔ x ∈ l.held ∨ x ∈ p.2
  inLine : ∀ x ∈ p.2, ∃ c ∈ R.line, c.who = x ∧ c.key = k
theorem rnext_eq (L : List Cl) (k : KeyT) : rnext L k = (ofKey L k).head? := by
  unfold rnext ofKey
  rw [List.head?_filter]
theorem serve_sim {k : KeyT} : ∀ (n m : Nat) {l : Ln} {R : RT} (o : List Int), LnMid l → LSim l R.held R.line k → (R.line.map Cl.who).Nodup → l.row.length ≤ n → l.row.length ≤ m → Served l R k o (serveP n l) (rserve m k (R, o))
  | n, m, l, R, o, h, hs, hn, h1, h2 => by
    cases hr : l.row with
    | nil =>
      have e1 : serveP n l = (l, []) := by cases n <;> simp [serveP, hr]
      have e2 : rnext R.line k = none := by
        rw [rnext_eq, List.head?_eq_none_iff]
        have := hs.row
        rw [hr] at this
        exact List.map_eq_nil_iff.1 this.symm
      have e3 : rserve m k (R, o) = (R, o) := by cases m <;> simp [rserve, e2]
      rw [e1, e3]
      exact ⟨hs, ⟨h.nodup, h.tog, (fun c hc => by rw [hr] at hc; cases hc), h.front, h.raise⟩, rfl, (List.filter_eq_self.2 (fun _ _ => rfl)).symm, (fun _ _ => Iff.rfl), (fun c hc => .inl hc), ⟨[], by rw [hr]; rfl, rfl⟩, (fun x => by simp), fun x hx => by cases hx⟩
    | cons c0 r =>
      have hrow := hs.row
      rw [hr] at hrow
      cases ho : ofKey R.line k with
      | nil => rw [ho] at hrow; cases hrow
      | cons c t =>
        rw [ho, List.map_cons] at hrow
        injection hrow with hc0 hrt
        have hcm : c ∈ R.line ∧ c.key = k := ofKey_mem.1 (by rw [ho]; exact List.mem_cons_self ..)
        have hnx : rnext R.line k = some c := by rw [rnext_eq, ho]; rfl
        have hfit : rfits R.held c.who k c.mine = letsP l c0 := by rw [hc0]; exact rfits_of hs (cmOf c)
        rw [hr, List.length_cons] at h1 h2
        obtain ⟨n, rfl⟩ : ∃ i, n = i + 1 := ⟨n - 1, by omega⟩
        obtain ⟨m, rfl⟩ : ∃ i, m = i + 1 := ⟨m - 1, by omega⟩
        have hnr : (l.row.map Cm.who).Nodup := h.nodup
        rw [hr, List.map_cons, List.nodup_cons] at hnr
        cases hl : letsP l c0 with
        | false =>
          have e1 : serveP (n + 1) l = (l, []) := by simp [serveP, hr, hl]
          have e3 : rserve (m + 1) k (R, o) = (R, o) := by simp [rserve, hnx, hfit, hl]
          rw [e1, e3]
          refine ⟨hs, ⟨h.nodup, h.tog, (fun d hd => ?_), h.front, h.raise⟩, rfl, (List.filter_eq_self.2 (fun _ _ => rfl)).symm, (fun _ _ => Iff.rfl), (fun c hc => .inl hc), ⟨[], by rw [hr]; rfl, rfl⟩, (fun x => by simp), fun x hx => by cases hx⟩
          rw [hr] at hd
          cases hd
          exact hl
        | true =>
          have hdrop := rdrop_one hn hcm.1
          rw [hcm.2] at hdrop
          have hhead : (ofKey R.line k).head? = some c := by rw [ho]; rfl
          have s1 := head_sim hs hn hhead (by rw [hr, hc0])
          have hm1 : LnMid { l with row := r } := ⟨hnr.2, h.tog, by have := h.front; rw [hr] at this; exact (List.pairwise_cons.1 this).2, fun d hd hh => h.raise d (by rw [hr]; exact List.mem_cons_of_mem _ hd) hh⟩
          have s2 := give_sim (c := c0) s1 hl (fun d hd hk e => by
            have := (List.mem_filter.1 hd).2
            rw [bne_iff_ne] at this
            exact absurd (by rw [e, hc0]; rfl) this)
          have hm2 := hm1.give hl hnr.1
          have e0 : c0.who = c.who := by rw [hc0]; rfl
          have e0m : c0.mine = c.mine := by rw [hc0]; rfl
          have hR2 : rgive k (R, o) c = (⟨rdrop R.held c.who k false ++ [{ c with raise := false }], R.line.filter fun d => d.who != c.who⟩, kin o c.who) := by
            unfold rgive
            simp only [hdrop]
          have hcl : ({ c with raise := false } : Cl) = ⟨c0.who, k, c0.mine, false⟩ := by rw [e0, e0m, ← hcm.2]
          have hn2 : ((R.line.filter fun d => d.who != c.who).map Cl.who).Nodup := (List.filter_sublist.map _).nodup hn
          have ih := serve_sim n m (l := giveP { l with row := r } c0) (R := ⟨rdrop R.held c.who k false ++ [{ c with raise := false }], R.line.filter fun d => d.who != c.who⟩) (kin o c.who) hm2 (by
            rw [hcl, ← e0]
            rw [e0] at s2 ⊢
            exact s2) hn2 (show r.length ≤ n by omega) (show r.length ≤ m by omega)
          have e1 : serveP (n + 1) l = ((serveP n (giveP { l with row := r } c0)).1, c0.who :: (serveP n (giveP { l with row := r } c0)).2) := by
            conv => lhs; unfold serveP
            rw [hr]
            simp only [hl, if_true]
          have e3 : rserve (m + 1) k (R, o) = rserve m k (⟨rdrop R.held c.who k false ++ [{ c with raise := false }], R.line.filter fun d => d.who != c.who⟩, kin o c.who) := by
            conv => lhs; unfold rserve
            simp only [hnx, hfit, hl, if_true, hR2]
          rw [e1, e3]
          obtain ⟨A, hA1, hA2⟩ := ih.row
          have hA1 : r = A ++ _ := hA1
          refine ⟨ih.sim, ih.ok, ?_, ?_, fun d hd => ?_, fun d hd => ?_, ⟨c0 :: A, ?_, ?_⟩, fun x => ?_, fun x hx => ?_⟩
          · rw [ih.out, List.foldl_cons, e0]
          · rw [ih.line, List.filter_filter]
            refine List.filter_congr fun d _ => ?_
            rw [List.contains_cons, e0]
            cases h5 : (d.who == c.who) <;> simp [bne, h5]
          · rw [ih.other d hd, List.mem_append, List.mem_singleton, rdrop_mem]
            constructor
            · rintro (h5 | h5)
              · exact h5.1
              · rw [h5] at hd; exact absurd hcm.2 hd
            · exact fun h5 => .inl ⟨h5, .inr hd⟩
          · rcases ih.heldOf d hd with h5 | ⟨f, hf, h6⟩
            · rcases List.mem_append.1 h5 with h5 | h5
              · exact .inl (rdrop_mem.1 h5).1
              · rw [List.mem_singleton] at h5
                exact .inr ⟨c, hcm.1, by rw [h5], by rw [h5]⟩
            · exact .inr ⟨f, (List.mem_filter.1 hf).1, h6⟩
          · rw [List.cons_append, ← hA1]
            exact hr
          · rw [hA2, List.map_cons]
          · rw [ih.held, give_mem, List.mem_cons]
            exact ⟨fun h => h.elim (fun h => h.elim .inl (fun e => .inr (.inl e))) (fun h => .inr (.inr h)), fun h => h.elim (fun h => .inl (.inl h)) (fun h => h.elim (fun e => .inl (.inr e)) .inr)⟩
          · rcases List.mem_cons.1 hx with rfl | hx
            · exact ⟨c, hcm.1, e0.symm, hcm.2⟩
            · obtain ⟨d, hd, h5⟩ := ih.inLine x hx
              exact ⟨d, (List.mem_filter.1 hd).1, h5⟩
end Go.Proofs.YtmchmlkbpocboaaGreatDoor

namespace Go.Proofs.YtmchmlkbpocboaaGreatDoor

def laneD (T : Tb) (k : KeyT) : Ln := (laneP T k).getD ln0
def clOk (c : Cl) : Prop := 1 ≤ c.who ∧ c.who ≤ 1073741824 ∧ c.key.length ≤ 16
/-- A table is what the document's is. -/
structure Sim (T : Tb) (R : RT) : Prop where
  lane : ∀ k, LSim (laneD T k) R.held R.line k
  ok : ∀ k, LnOk (laneD T k)
  waits : ∀ x, waitP T x = (rwaits R.line x).map fun c => (c.key, c.mine)
  one : (R.line.map Cl.who).Nodup
  lanesN : (T.lanes.map (·.1)).Nodup
  waitsN : (T.waits.map (·.1)).Nodup
  inH : ∀ c ∈ R.held, clOk c
  inL : ∀ c ∈ R.line, clOk c
theorem find_map {α β : Type} (f : α → β) (p : α → Bool) (q : β → Bool) (h : ∀ a, q (f a) = p a) (l : List α) : (l.map f).find? q = (l.find? p).map f := by
  induction l with
  | nil => rfl
  | cons a l ih =>
    rw [List.map_cons, List.find?_cons, List.find?_cons, h a]
    cases p a
    · exact ih
    · rfl
theorem laneP_set (T : Tb) (k : KeyT) (l : Ln) (k' : KeyT) : laneP (setLane T k l) k' = if k' = k then some l else laneP T k' := by
  unfold setLane laneP
  by_cases hany : T.lanes.any (fun e => e.1 == k) = true
  · rw [if_pos hany]
    show ((T.lanes.map fun e => if e.1 = k then (k, l) else e).find? _).map _ = _
    rw [find_map (fun e : KeyT × Ln => if e.1 = k then (k, l) else e) (fun e : KeyT × Ln => e.1 == k') (fun e : KeyT × Ln => e.1 == k') (fun e => by
      by_cases h : e.1 = k
      · rw [if_pos h, ← h]
      · rw [if_neg h])]
    cases hf : T.lanes.find? (fun e => e.1 == k') with
    | none =>
      by_cases hk : k' = k
      · subst hk
        rw [List.find?_eq_none] at hf
        obtain ⟨e, he, h⟩ := List.any_eq_true.1 hany
        exact absurd h (hf e he)
      · rw [if_neg hk]; rfl
    | some e =>
      have := List.find?_some hf
      rw [beq_iff_eq] at this
      show some (if e.1 = k then (k, l) else e).2 = _
      by_cases hk : k' = k
      · rw [if_pos hk, if_pos (this.trans hk)]
      · rw [if_neg hk, if_neg (fun h => hk (this ▸ h))]
        rfl
  · rw [if_neg hany]
    show ((T.lanes ++ [(k, l)]).find? _).map _ = _
    rw [List.find?_append]
    cases hf : T.lanes.find? (fun e => e.1 == k') with
    | none =>
      by_cases hk : k' = k
      · subst hk; simp
      · rw [if_neg hk]
        have : (k == k') = false := by simpa using fun h : k = k' => hk h.symm
        simp [this]
    | some e =>
      have h1 := List.find?_some hf
      rw [beq_iff_eq] at h1
      by_cases hk : k' = k
      · exact absurd (List.any_eq_true.2 ⟨e, List.mem_of_find?_eq_some hf, by rw [h1, hk]; simp⟩) hany
      · rw [if_neg hk]; rfl
theorem laneD_set (T : Tb) (k : KeyT) (l : Ln) (k' : KeyT) : laneD (setLane T k l) k' = if k' = k then l else laneD T k' := by
  unfold laneD
  rw [laneP_set]
  split <;> rfl
theorem setLane_keys (T : Tb) (k : KeyT) (l : Ln) : (setLane T k l).lanes.map (·.1) = if T.lanes.any (fun e => e.1 == k) then T.lanes.map (·.1) else T.lanes.map (·.1) ++ [k] := by
  unfold setLane
  split
  · show (T.lanes.map _).map _ = _
    rw [List.map_map]
    refine List.map_congr_left fun e _ => ?_
    show (if e.1 = k then (k, l) else e).1 = e.1
    split
    · next h => exact h.symm
    · rfl
  · show (T.lanes ++ [(k, l)]).map _ = _
    rw [List.map_append]; rfl
theorem setLane_nodup {T : Tb} (h : (T.lanes.map (·.1)).Nodup) (k : KeyT) (l : Ln) : ((setLane T k l).lanes.map (·.1)).Nodup := by
  rw [setLane_keys]
  split
  · exact h
  · next hn =>
    rw [List.nodup_append]
    refine ⟨h, by simp, fun a ha b hb => ?_⟩
    rw [List.mem_singleton] at hb
    rintro rfl
    obtain ⟨e, he, h2⟩ := List.mem_map.1 ha
    exact hn (List.any_eq_true.2 ⟨e, he, by rw [h2, hb]; simp⟩)
theorem setLane_waits (T : Tb) (k : KeyT) (l : Ln) : (setLane T k l).waits = T.waits := by unfold setLane; split <;> rfl
theorem waitP_set (T : Tb) (k : KeyT) (l : Ln) (x : Int) : waitP (setLane T k l) x = waitP T x := by unfold waitP; rw [setLane_waits]
theorem Sim.noline {T : Tb} {R : RT} (h : Sim T R) {who : Int} (hw : rwaits R.line who = none) : ∀ d ∈ R.line, d.who ≠ who := by
  unfold rwaits at hw
  rw [List.find?_eq_none] at hw
  exact fun d hd => by simpa using hw d hd
theorem Sim.norow {T : Tb} {R : RT} (h : Sim T R) {who : Int} (hw : rwaits R.line who = none) (k : KeyT) : who ∉ (laneD T k).row.map Cm.who := by
  rw [(h.lane k).row, List.map_map]
  intro hm
  obtain ⟨d, hd, e⟩ := List.mem_map.1 hm
  exact h.noline hw d (ofKey_mem.1 hd).1 e
/-- What a lane of one key becomes, all others stay. -/
theorem Sim.lane_set {T : Tb} {R R' : RT} (h : Sim T R) {k : KeyT} {l : Ln} (hl : LSim l R'.held R'.line k) (hH : ∀ c : Cl, c.key ≠ k → (c ∈ R'.held ↔ c ∈ R.held)) (hL : ∀ k', k' ≠ k → ofKey R'.line k' = ofKey R.line k') : ∀ k', LSim (laneD (setLane T k l) k') R'.held R'.line k' := fun k' => by
  rw [laneD_set]
  by_cases hk : k' = k
  · rw [if_pos hk, hk]; exact hl
  · rw [if_neg hk]
    exact (h.lane k').congr (fun c hc => hH c (fun e => hk (hc ▸ e))) (hL k' hk)
theorem waitP_add (T : Tb) (who : Int) (v : KeyT × Bool) (x : Int) (h : waitP T who = none) : waitP { T with waits := T.waits ++ [(who, v)] } x = if x = who then some v else waitP T x := by
  unfold waitP at h ⊢
  show ((T.waits ++ [(who, v)]).find? _).map _ = _
  rw [List.find?_append]
  by_cases hx : x = who
  · subst hx
    have : T.waits.find? (fun e => e.1 == x) = none := by
      cases hf : T.waits.find? (fun e => e.1 == x) with
      | none => rfl
      | some e => rw [hf] at h; cases h
    rw [this]; simp
  · rw [if_neg hx]
    have e : (who == x) = false := by simpa using fun h : who = x => hx h.symm
    cases hf : T.waits.find? (fun e => e.1 == x) <;> simp [e]
theorem waitP_none {T : Tb} {who : Int} (h : waitP T who = none) : who ∉ T.waits.map (·.1) := by
  unfold waitP at h
  rw [Option.map_eq_none_iff, List.find?_eq_none] at h
  intro hm
  obtain ⟨e, he, h2⟩ := List.mem_map.1 hm
  exact h e he (by simpa using h2)
theorem rwaits_ins {L : List Cl} {c : Cl} (hn : ∀ d ∈ L, d.who ≠ c.who) (x : Int) : rwaits (insC L c) x = if x = c.who then some c else rwaits L x := by
  induction L with
  | nil =>
    unfold insC rwaits
    by_cases hx : x = c.who
    · subst hx; simp
    · rw [if_neg hx]
      have e : (c.who == x) = false := by simpa using fun h : c.who = x => hx h.symm
      simp [e]
  | cons d L ih =>
    have hd := hn d (List.mem_cons_self ..)
    have ih := ih (fun e he => hn e (List.mem_cons_of_mem _ he))
    unfold insC
    split
    · unfold rwaits
      rw [List.find?_cons]
      by_cases hx : x = c.who
      · subst hx; simp
      · rw [if_neg hx]
        have e : (c.who == x) = false := by simpa using fun h : c.who = x => hx h.symm
        simp [e]
    · unfold rwaits at ih ⊢
      rw [List.find?_cons, ih, List.find?_cons]
      by_cases hdx : d.who = x
      · have e : (d.who == x) = true := by simpa using hdx
        simp only [e]
        rw [if_neg (fun h => hd (hdx.trans h))]
      · have e : (d.who == x) = false := by simpa using hdx
        simp only [e]
theorem insC_perm (c : Cl) : ∀ L : List Cl, (insC L c).Perm (c :: L)
  | [] => List.Perm.refl _
  | x :: L => by
    unfold insC
    split
    · exact List.Perm.refl _
    · exact ((insC_perm c L).cons x).trans (List.Perm.swap c x L)
/-- Ask: both answer alike, and stay alike. -/
theorem ask_sim {T : Tb} {R : RT} (h : Sim T R) (who : Int) (k : KeyT) (mine : Bool) : (askP T who k mine).1 = (raskP R who k mine).1 ∧ Sim (askP T who k mine).2 (raskP R who k mine).2 := by
  unfold askP raskP
  by_cases h1 : who < 1 ∨ 1073741824 < who
  · have h3 : who < 1 ∨ 1073741824 < who ∨ 16 < k.length := h1.elim .inl (fun e => .inr (.inl e))
    rw [if_pos h1, if_pos h3]
    exact ⟨rfl, h⟩
  · rw [if_neg h1]
    by_cases h2 : 16 < k.length
    · have h3 : who < 1 ∨ 1073741824 < who ∨ 16 < k.length := .inr (.inr h2)
      rw [if_pos h2, if_pos h3]
      exact ⟨rfl, h⟩
    · have h3 : ¬ (who < 1 ∨ 1073741824 < who ∨ 16 < k.length) := by
        rintro (e | e | e)
        · exact h1 (.inl e)
        · exact h1 (.inr e)
        · exact h2 e
      rw [if_neg h2, if_neg h3]
      have hcl : ∀ m r, clOk ⟨who, k, m, r⟩ := fun m r => by
        unfold clOk
        rw [not_or] at h1
        refine ⟨?_, ?_, ?_⟩ <;> (show _ ≤ _; simp only; omega)
      have hw := h.waits who
      cases hr : rwaits R.line who with
      | some w =>
        rw [hr] at hw
        rw [hw]
        refine ⟨?_, h⟩
        show (if (w.key, w.mine) = (k, mine) then (20 : Int) else 9) = if w.key ≠ k ∨ w.mine ≠ mine then 9 else 20
        by_cases e : w.key = k ∧ w.mine = mine
        · rw [if_pos (by rw [e.1, e.2]), if_neg (by rintro (e2 | e2); exact e2 e.1; exact e2 e.2)]
        · rw [if_neg (fun e2 => e (by injection e2 with e3 e4; exact ⟨e3, e4⟩)), if_pos (Classical.not_and_iff_not_or_not.1 e)]
      | none =>
        rw [hr] at hw
        have hw : waitP T who = none := hw
        rw [hw]
        have hln := h.noline hr
        have hrow := h.norow hr k
        have hl := h.lane k
        have hok := h.ok k
        show ((let q := takeP (laneD T k) ⟨who, mine⟩; if q.2 = true then (0, setLane T k q.1) else (20, { setLane T k q.1 with waits := T.waits ++ [(who, (k, mine))] }))).1 = _ ∧ Sim ((let q := takeP (laneD T k) ⟨who, mine⟩; if q.2 = true then (0, setLane T k q.1) else (20, { setLane T k q.1 with waits := T.waits ++ [(who, (k, mine))] }))).2 _
        simp only [rholds_of hl who]
        have hf1 : ∀ m, rfits R.held who k m = letsP (laneD T k) ⟨who, m⟩ := fun m => rfits_of hl ⟨who, m⟩
        simp only [hf1]
        have hwait : rwaiting R.line k = !(laneD T k).row.isEmpty := by
          rw [hl.row]
          unfold rwaiting ofKey
          rw [Bool.eq_iff_iff, List.any_eq_true, Bool.not_eq_true', List.isEmpty_eq_false_iff]
          simp [List.filter_eq_nil_iff]
        rw [hwait]
        -- the three ways
        have keep : (who ∈ (laneD T k).held ∧ ((laneD T k).mine = true ∨ mine = false)) → takeP (laneD T k) ⟨who, mine⟩ = (laneD T k, true) := fun e => by
          unfold takeP
          rw [if_pos (by
            simp only [List.contains_eq_mem, Bool.and_eq_true, decide_eq_true_eq, Bool.or_eq_true, Bool.not_eq_true']
            exact e)]
        have notkeep : ¬ (who ∈ (laneD T k).held ∧ ((laneD T k).mine = true ∨ mine = false)) → takeP (laneD T k) ⟨who, mine⟩ = if letsP (laneD T k) ⟨who, mine⟩ = true ∧ (who ∈ (laneD T k).held ∨ (laneD T k).row = []) then (giveP (laneD T k) ⟨who, mine⟩, true) else ({ laneD T k with row := putAt (laneD T k).row (placeP (laneD T k) ((laneD T k).held.contains who)) ⟨who, mine⟩ }, false) := fun e => by
          unfold takeP
          rw [if_neg (by
            simp only [List.contains_eq_mem, Bool.and_eq_true, decide_eq_true_eq, Bool.or_eq_true, Bool.not_eq_true']
            exact e)]
          simp only [List.contains_eq_mem, Bool.and_eq_true, decide_eq_true_eq, Bool.or_eq_true, List.isEmpty_iff]
        have sameSim : ∀ l, l = laneD T k → Sim (setLane T k l) R := fun l e => by
          have e2 : ∀ k', laneD (setLane T k l) k' = laneD T k' := fun k' => by
            rw [laneD_set]
            split
            · next e3 => rw [e3, e]
            · rfl
          exact ⟨fun k' => by rw [e2]; exact h.lane k', fun k' => by rw [e2]; exact h.ok k', fun x => by rw [waitP_set]; exact h.waits x, h.one, setLane_nodup h.lanesN _ _, by rw [setLane_waits]; exact h.waitsN, h.inH, h.inL⟩
        by_cases hk : who ∈ (laneD T k).held ∧ ((laneD T k).mine = true ∨ mine = false)
        · rw [keep hk]
          rw [if_pos hk.1]
          have hc : ((if (laneD T k).mine = true then (2 : Int) else 1) = 2 ∨ (if (laneD T k).mine = true then (2 : Int) else 1) = 1 ∧ mine = false) := by
            cases hm : (laneD T k).mine
            · right; exact ⟨by simp, hk.2.resolve_left (by rw [hm]; simp)⟩
            · left; simp
          rw [if_pos hc]
          exact ⟨rfl, sameSim _ rfl⟩
        · rw [notkeep hk]
          have hc : ¬ ((if who ∈ (laneD T k).held then (if (laneD T k).mine = true then (2 : Int) else 1) else 0) = 2 ∨ (if who ∈ (laneD T k).held then (if (laneD T k).mine = true then (2 : Int) else 1) else 0) = 1 ∧ mine = false) := by
            intro e
            by_cases hin : who ∈ (laneD T k).held
            · rw [if_pos hin] at e
              cases hm : (laneD T k).mine
              · rw [hm] at e
                simp at e
                exact hk ⟨hin, .inr e⟩
              · exact hk ⟨hin, .inl hm⟩
            · rw [if_neg hin] at e
              simp at e
          rw [if_neg hc]
          by_cases hg : letsP (laneD T k) ⟨who, mine⟩ = true ∧ (who ∈ (laneD T k).held ∨ (laneD T k).row = [])
          · rw [if_pos hg]
            have hc2 : (((if who ∈ (laneD T k).held then (if (laneD T k).mine = true then (2 : Int) else 1) else 0) = 1 ∧ letsP (laneD T k) ⟨who, true⟩ = true) ∨ ((if who ∈ (laneD T k).held then (if (laneD T k).mine = true then (2 : Int) else 1) else 0) = 0 ∧ (!(laneD T k).row.isEmpty) = false ∧ letsP (laneD T k) ⟨who, mine⟩ = true)) := by
              by_cases hin : who ∈ (laneD T k).held
              · left
                have hm : (laneD T k).mine = false := by
                  cases hm : (laneD T k).mine
                  · rfl
                  · exact absurd ⟨hin, .inl hm⟩ hk
                have hmi : mine = true := by
                  cases hmi : mine
                  · exact absurd ⟨hin, .inr hmi⟩ hk
                  · rfl
                rw [if_pos hin, hm]
                rw [hmi] at hg
                exact ⟨by simp, hg.1⟩
              · right
                rw [if_neg hin]
                exact ⟨rfl, by rw [hg.2.resolve_left hin]; rfl, hg.1⟩
            rw [if_pos hc2]
            refine ⟨rfl, ?_⟩
            have hg2 := give_sim (c := ⟨who, mine⟩) hl hg.1 (fun d hd _ e => absurd e (hln d hd))
            refine ⟨h.lane_set (R' := ⟨_, R.line⟩) hg2 (fun c hc => ?_) (fun k' _ => rfl), fun k' => ?_, fun x => (waitP_set T k _ x).trans (h.waits x), h.one, setLane_nodup h.lanesN _ _, (by show ((setLane T k _).waits.map _).Nodup; rw [setLane_waits]; exact h.waitsN), fun c hc => ?_, h.inL⟩
            · rw [List.mem_append, List.mem_singleton, rdrop_mem]
              exact ⟨fun e => e.elim (fun e => e.1) (fun e => absurd (by rw [e]) hc), fun e => .inl ⟨e, .inr hc⟩⟩
            · show LnOk (laneD (setLane T k _) k')
              rw [laneD_set]
              split
              · refine give_ok hok hg.1 hrow ?_
                by_cases hin : who ∈ (laneD T k).held
                · right
                  refine ⟨hin, ?_⟩
                  cases hmi : mine
                  · exact absurd ⟨hin, .inr hmi⟩ hk
                  · rfl
                · exact .inl (hg.2.resolve_left hin)
              · exact h.ok k'
            · rcases List.mem_append.1 hc with hc | hc
              · exact h.inH c (rdrop_mem.1 hc).1
              · rw [List.mem_singleton.1 hc]; exact hcl _ _
          · rw [if_neg hg]
            have hc2 : ¬ (((if who ∈ (laneD T k).held then (if (laneD T k).mine = true then (2 : Int) else 1) else 0) = 1 ∧ letsP (laneD T k) ⟨who, true⟩ = true) ∨ ((if who ∈ (laneD T k).held then (if (laneD T k).mine = true then (2 : Int) else 1) else 0) = 0 ∧ (!(laneD T k).row.isEmpty) = false ∧ letsP (laneD T k) ⟨who, mine⟩ = true)) := by
              rintro (⟨e1, e2⟩ | ⟨e1, e2, e3⟩)
              · by_cases hin : who ∈ (laneD T k).held
                · have hmi : mine = true := by
                    cases hmi : mine
                    · exact absurd ⟨hin, .inr hmi⟩ hk
                    · rfl
                  exact hg ⟨by rw [hmi]; exact e2, .inl hin⟩
                · rw [if_neg hin] at e1; simp at e1
              · refine hg ⟨e3, .inr ?_⟩
                rw [Bool.not_eq_false'] at e2
                exact List.isEmpty_iff.1 e2
            rw [if_neg hc2]
            have hraise : decide ((if who ∈ (laneD T k).held then (if (laneD T k).mine = true then (2 : Int) else 1) else 0) = 1) = (laneD T k).held.contains who := by
              rw [List.contains_eq_mem]
              by_cases hin : who ∈ (laneD T k).held
              · have hm : (laneD T k).mine = false := by
                  cases hm : (laneD T k).mine
                  · rfl
                  · exact absurd ⟨hin, .inl hm⟩ hk
                rw [if_pos hin, hm, decide_eq_true hin]; rfl
              · rw [if_neg hin, decide_eq_false hin]; rfl
            rw [hraise, rins_eq]
            refine ⟨rfl, ?_⟩
            have hwt : waitP (setLane T k { laneD T k with row := putAt (laneD T k).row (placeP (laneD T k) ((laneD T k).held.contains who)) ⟨who, mine⟩ }) who = none := by rw [waitP_set]; exact hw
            have hS := h.lane_set (R' := ⟨R.held, insC R.line ⟨who, k, mine, (laneD T k).held.contains who⟩⟩) (wait_sim (who := who) (mine := mine) hl) (fun c _ => Iff.rfl) (fun k' hk' => insC_other (fun e => hk' e.symm) _)
            have hpm := insC_perm ⟨who, k, mine, (laneD T k).held.contains who⟩ R.line
            refine ⟨hS, fun k' => ?_, fun x => ?_, ?_, setLane_nodup h.lanesN _ _, ?_, h.inH, fun c hc => ?_⟩
            · show LnOk (laneD (setLane T k _) k')
              rw [laneD_set]
              split
              · exact wait_ok (c := ⟨who, mine⟩) hok hrow hk hg
              · exact h.ok k'
            · have := waitP_add (setLane T k { laneD T k with row := putAt (laneD T k).row (placeP (laneD T k) ((laneD T k).held.contains who)) ⟨who, mine⟩ }) who (k, mine) x hwt
              rw [setLane_waits] at this
              refine Eq.trans this ?_
              show _ = Option.map _ (rwaits (insC R.line _) x)
              rw [rwaits_ins hln]
              show _ = Option.map _ (if x = who then _ else _)
              split
              · rfl
              · rw [waitP_set]; exact h.waits x
            · rw [(hpm.map Cl.who).nodup_iff, List.map_cons, List.nodup_cons]
              refine ⟨fun e => ?_, h.one⟩
              obtain ⟨d, hd, e⟩ := List.mem_map.1 e
              exact hln d hd e
            · show ((T.waits ++ [(who, (k, mine))]).map _).Nodup
              rw [List.map_append, List.nodup_append]
              refine ⟨h.waitsN, by simp, fun a ha b hb => ?_⟩
              rw [List.map_cons, List.map_nil, List.mem_singleton] at hb
              intro e
              have e2 : a = who := e.trans hb
              rw [e2] at ha
              exact waitP_none hw ha
            · rcases insC_mem.1 hc with hc | hc
              · exact h.inL c hc
              · rw [hc]; exact hcl _ _
end Go.Proofs.YtmchmlkbpocboaaGreatDoor

namespace Go.Proofs.YtmchmlkbpocboaaGreatDoor

/-- An order. -/
structure Ord3 (α : Type) [LT α] : Prop where
  ir : ∀ a : α, ¬ a < a
  tr : ∀ a b c : α, a < b → b < c → a < c
  to : ∀ a b : α, ¬ a < b → a ≠ b → b < a
theorem intO : Ord3 Int := ⟨fun a => by omega, fun a b c => by omega, fun a b h1 h2 => by omega⟩
theorem keyO : Ord3 (List UInt8) := ⟨fun a => List.lt_irrefl a, fun a b c h1 h2 => List.lt_trans h1 h2, fun a b h1 h2 => by
  have : b ≤ a := h1
  exact (List.le_iff_lt_or_eq.1 this).resolve_right (fun e => h2 e.symm)⟩
def kinR {α : Type} [DecidableEq α] [LT α] [DecidableLT α] : List α → α → List α
  | [], c => [c]
  | x :: l, c => if x < c then x :: kinR l c else c :: (x :: l).filter (fun y => decide (y ≠ c))
theorem kin_fold {α : Type} [DecidableEq α] [LT α] [DecidableLT α] (O : Ord3 α) (c : α) : ∀ (l A : List α), rendS c (l.foldl (kinS c) (A, true)) = A ++ l.filter (fun y => decide (y ≠ c)) ∧ rendS c (l.foldl (kinS c) (A, false)) = A ++ kinR l c
  | [], A => ⟨by simp [rendS], by simp [rendS, kinR]⟩
  | x :: l, A => by
    have h1 : ∀ A, kinS c (A, true) x = (A ++ (if x ≠ c then [x] else []), true) := fun A => by
      unfold kinS
      by_cases e : x = c <;> simp [e]
    have e1 : (x :: l).filter (fun y => decide (y ≠ c)) = (if x ≠ c then [x] else []) ++ l.filter (fun y => decide (y ≠ c)) := by
      rw [List.filter_cons]
      by_cases e : x = c <;> simp [e]
    refine ⟨?_, ?_⟩
    · rw [List.foldl_cons, h1, (kin_fold O c l _).1, e1, List.append_assoc]
    · rw [List.foldl_cons]
      unfold kinR
      by_cases hx : x < c
      · have hne : x ≠ c := fun e => O.ir c (e ▸ hx)
        have h2 : kinS c (A, false) x = (A ++ [x], false) := by
          unfold kinS
          simp [hx, hne]
        rw [h2, (kin_fold O c l _).2, if_pos hx]; simp
      · have h2 : kinS c (A, false) x = (A ++ [c] ++ (if x ≠ c then [x] else []), true) := by
          unfold kinS
          by_cases e : x = c <;> simp [hx, e, O.ir]
        rw [h2, (kin_fold O c l _).1, if_neg hx, e1]; simp
theorem kin_eq {α : Type} [DecidableEq α] [LT α] [DecidableLT α] (O : Ord3 α) (l : List α) (c : α) : kin l c = kinR l c := by
  unfold kin
  rw [(kin_fold O c l []).2, List.nil_append]
theorem kinR_mem {α : Type} [DecidableEq α] [LT α] [DecidableLT α] {c y : α} : ∀ {l : List α}, y ∈ kinR l c ↔ y ∈ l ∨ y = c
  | [] => by simp [kinR]
  | x :: l => by
    unfold kinR
    split
    · rw [List.mem_cons, kinR_mem, List.mem_cons]
      constructor
      · rintro (h | h | h)
        · exact .inl (.inl h)
        · exact .inl (.inr h)
        · exact .inr h
      · rintro ((h | h) | h)
        · exact .inl h
        · exact .inr (.inl h)
        · exact .inr (.inr h)
    · rw [List.mem_cons, List.mem_filter, decide_eq_true_eq]
      constructor
      · rintro (h | h)
        · exact .inr h
        · exact .inl h.1
      · rintro (h | h)
        · by_cases e : y = c
          · exact .inl e
          · exact .inr ⟨h, e⟩
        · exact .inl h
theorem kin_mem {α : Type} [DecidableEq α] [LT α] [DecidableLT α] (O : Ord3 α) {l : List α} {c y : α} : y ∈ kin l c ↔ y ∈ l ∨ y = c := by rw [kin_eq O, kinR_mem]
def Rising {α : Type} [LT α] (l : List α) : Prop := l.Pairwise (· < ·)
theorem kinR_rise {α : Type} [DecidableEq α] [LT α] [DecidableLT α] (O : Ord3 α) {c : α} : ∀ {l : List α}, Rising l → Rising (kinR l c)
  | [], _ => List.pairwise_singleton _ _
  | x :: l, h => by
    have h2 := List.pairwise_cons.1 h
    unfold kinR
    split
    · next hx =>
      refine List.pairwise_cons.2 ⟨fun y hy => ?_, kinR_rise O h2.2⟩
      rcases kinR_mem.1 hy with hy | rfl
      · exact h2.1 y hy
      · exact hx
    · next hx =>
      refine List.pairwise_cons.2 ⟨fun y hy => ?_, List.Pairwise.sublist List.filter_sublist h⟩
      obtain ⟨hy1, hy2⟩ := List.mem_filter.1 hy
      rw [decide_eq_true_eq] at hy2
      rcases List.mem_cons.1 hy1 with hy1 | hy1
      · rw [hy1] at hy2 ⊢
        exact O.to _ _ hx hy2
      · by_cases e : x = c
        · exact e ▸ h2.1 y hy1
        · exact O.tr _ _ _ (O.to _ _ hx e) (h2.1 y hy1)
theorem kin_rise {α : Type} [DecidableEq α] [LT α] [DecidableLT α] (O : Ord3 α) {l : List α} (c : α) (h : Rising l) : Rising (kin l c) := by rw [kin_eq O]; exact kinR_rise O h
theorem kins_rise {α : Type} [DecidableEq α] [LT α] [DecidableLT α] (O : Ord3 α) {β : Type} (f : β → α) : ∀ (B : List β) (l : List α), Rising l → Rising (B.foldl (fun o b => kin o (f b)) l) ∧ ∀ y, y ∈ B.foldl (fun o b => kin o (f b)) l ↔ y ∈ l ∨ ∃ b ∈ B, f b = y
  | [], l, h => ⟨h, fun y => by simp⟩
  | b :: B, l, h => by
    obtain ⟨h1, h2⟩ := kins_rise O f B (kin l (f b)) (kin_rise O _ h)
    refine ⟨h1, fun y => ?_⟩
    rw [List.foldl_cons, h2, kin_mem O]
    constructor
    · rintro ((h | h) | ⟨d, hd, h⟩)
      · exact .inl h
      · exact .inr ⟨b, List.mem_cons_self .., h.symm⟩
      · exact .inr ⟨d, List.mem_cons_of_mem _ hd, h⟩
    · rintro (h | ⟨d, hd, h⟩)
      · exact .inl (.inl h)
      · rcases List.mem_cons.1 hd with rfl | hd
        · exact .inl (.inr h.symm)
        · exact .inr ⟨d, hd, h⟩
theorem rising_uniq {α : Type} [LT α] (O : Ord3 α) : ∀ {l m : List α}, Rising l → Rising m → (∀ y, y ∈ l ↔ y ∈ m) → l = m
  | [], [], _, _, _ => rfl
  | [], y :: m, _, _, h => absurd ((h y).2 (List.mem_cons_self ..)) (by simp)
  | x :: l, [], _, _, h => absurd ((h x).1 (List.mem_cons_self ..)) (by simp)
  | x :: l, y :: m, hl, hm, h => by
    have hl2 := List.pairwise_cons.1 hl
    have hm2 := List.pairwise_cons.1 hm
    have e : x = y := by
      rcases List.mem_cons.1 ((h x).1 (List.mem_cons_self ..)) with e | h1
      · exact e
      · rcases List.mem_cons.1 ((h y).2 (List.mem_cons_self ..)) with e | h2
        · exact e.symm
        · exact absurd (O.tr _ _ _ (hl2.1 y h2) (hm2.1 x h1)) (O.ir _)
    subst e
    rw [rising_uniq O hl2.2 hm2.2 (fun z => ?_)]
    constructor
    · intro hz
      rcases List.mem_cons.1 ((h z).1 (List.mem_cons_of_mem _ hz)) with e | h1
      · exact absurd (e ▸ hl2.1 z hz) (O.ir _)
      · exact h1
    · intro hz
      rcases List.mem_cons.1 ((h z).2 (List.mem_cons_of_mem _ hz)) with e | h1
      · exact absurd (e ▸ hm2.1 z hz) (O.ir _)
      · exact h1
theorem Rising.nodup {α : Type} [LT α] (O : Ord3 α) {l : List α} (h : Rising l) : l.Nodup := List.Pairwise.imp (S := fun a b => a ≠ b) (fun {a b} hab (e : a = b) => O.ir b (by rw [e] at hab; exact hab)) h
/-- A row in order, each once, rises. -/
theorem rising_of {α : Type} [LT α] (O : Ord3 α) {l : List α} (h : l.Pairwise fun a b => ¬ b < a) (hn : l.Nodup) : Rising l :=
  (h.and hn).imp fun {a b} hab => O.to b a hab.1 (fun e => hab.2 e.symm)
theorem rkeys_rise (R : RT) : Rising (rkeys R) ∧ ∀ k, k ∈ rkeys R ↔ ∃ c ∈ R.held ++ R.line, c.key = k := by
  obtain ⟨h1, h2⟩ := kins_rise keyO (fun c : Cl => c.key) (R.held ++ R.line) [] List.Pairwise.nil
  exact ⟨h1, fun k => by rw [rkeys, h2]; simp⟩
theorem rwho_rise (R : RT) : Rising (rwho R) ∧ ∀ k, k ∈ rwho R ↔ ∃ c ∈ R.held ++ R.line, c.who = k := by
  obtain ⟨h1, h2⟩ := kins_rise intO (fun c : Cl => c.who) (R.held ++ R.line) [] List.Pairwise.nil
  exact ⟨h1, fun k => by rw [rwho, h2]; simp⟩
end Go.Proofs.YtmchmlkbpocboaaGreatDoor

namespace Go.Proofs.YtmchmlkbpocboaaGreatDoor

def delLane (T : Tb) (k : KeyT) : Tb := { T with lanes := T.lanes.filter fun e => e.1 != k }
/-- One key is struck and served. -/
def relStepP (who : Int) (s : Tb × List Int) (k : KeyT) : Tb × List Int := match laneP s.1 k with
  | some l => (if (relLane l who).1.held = [] then delLane s.1 k else setLane s.1 k (relLane l who).1, s.2 ++ (relLane l who).2)
  | none => s
/-- The keys that one holds or waits for, rising. -/
def KeysOf (T : Tb) (who : Int) (ks : List KeyT) : Prop := Rising ks ∧ ∀ k, k ∈ ks ↔ ∃ l, laneP T k = some l ∧ (who ∈ l.held ∨ ∃ m, waitP T who = some (k, m))
def noWait (T : Tb) (S : List Int) : Tb := { T with waits := T.waits.filter fun e => !(S.contains e.1) }
def relP (T : Tb) (who : Int) (ks : List KeyT) : Tb × List Int :=
  let s := ks.foldl (relStepP who) (noWait T [who], [])
  (noWait s.1 s.2, s.2)
theorem laneP_del (T : Tb) (k k' : KeyT) : laneP (delLane T k) k' = if k' = k then none else laneP T k' := by
  unfold laneP delLane
  show ((T.lanes.filter _).find? _).map _ = _
  rw [List.find?_filter]
  by_cases hk : k' = k
  · rw [if_pos hk]
    have : T.lanes.find? (fun a => decide ((a.1 != k) = true ∧ (a.1 == k') = true)) = none := by
      rw [List.find?_eq_none]
      intro e _
      simp only [decide_eq_true_eq, bne_iff_ne, beq_iff_eq, not_and]
      intro h1 h2
      exact h1 (h2.trans hk)
    rw [this]; rfl
  · rw [if_neg hk]
    congr 1
    congr 1
    funext e
    rw [Bool.eq_iff_iff, decide_eq_true_eq, bne_iff_ne, beq_iff_eq]
    exact ⟨fun h => h.2, fun h => ⟨fun e2 => hk (h ▸ e2), h⟩⟩
theorem waitP_no (T : Tb) (S : List Int) (x : Int) : waitP (noWait T S) x = if x ∈ S then none else waitP T x := by
  unfold waitP noWait
  show ((T.waits.filter _).find? _).map _ = _
  rw [List.find?_filter]
  by_cases hk : x ∈ S
  · rw [if_pos hk]
    have : T.waits.find? (fun a => decide ((!(S.contains a.1)) = true ∧ (a.1 == x) = true)) = none := by
      rw [List.find?_eq_none]
      intro e _
      simp only [decide_eq_true_eq, List.contains_eq_mem, Bool.not_eq_true', decide_eq_false_iff_not, beq_iff_eq, not_and]
      intro h1 h2
      exact h1 (h2 ▸ hk)
    rw [this]; rfl
  · rw [if_neg hk]
    congr 1
    congr 1
    funext e
    rw [Bool.eq_iff_iff]
    simp only [decide_eq_true_eq, List.contains_eq_mem, Bool.not_eq_true', decide_eq_false_iff_not, beq_iff_eq]
    exact ⟨fun h => h.2, fun h => ⟨h ▸ hk, h⟩⟩
theorem laneP_no (T : Tb) (S : List Int) (k : KeyT) : laneP (noWait T S) k = laneP T k := rfl
theorem serve_fuel : ∀ (n m : Nat) (l : Ln), l.row.length ≤ n → l.row.length ≤ m → serveP n l = serveP m l
  | n, m, l, h1, h2 => by
    cases hr : l.row with
    | nil =>
      have e : ∀ n, serveP n l = (l, []) := fun n => by cases n <;> simp [serveP, hr]
      rw [e, e]
    | cons c r =>
      rw [hr, List.length_cons] at h1 h2
      obtain ⟨n, rfl⟩ : ∃ i, n = i + 1 := ⟨n - 1, by omega⟩
      obtain ⟨m, rfl⟩ : ∃ i, m = i + 1 := ⟨m - 1, by omega⟩
      unfold serveP
      rw [hr]
      simp only
      rw [serve_fuel n m (giveP { l with row := r } c) (show r.length ≤ n by omega) (show r.length ≤ m by omega)]
theorem relLane_eq (l : Ln) (who : Int) : relLane l who = serveP (strikeP l who).row.length (strikeP l who) := by
  unfold relLane
  exact serve_fuel _ _ _ (List.length_filter_le _ _) (Nat.le_refl _)
/-- The claims of one are gone: each lane is struck. -/
theorem LSim.strike {l : Ln} {H L : List Cl} {k : KeyT} (h : LSim l H L k) (who : Int) : LSim (strikeP l who) (rdrop H who [] true) (rdrop L who [] true) k := by
  have hd : ∀ (L : List Cl) (c : Cl), c ∈ rdrop L who [] true ↔ c ∈ L ∧ c.who ≠ who := fun L c => by unfold rdrop; rw [List.mem_filter]; simp
  refine ⟨fun x m => ?_, ?_, fun c hc hk => ?_⟩
  · rw [strike_mem]
    have : (strikeP l who).mine = l.mine := rfl
    rw [this]
    constructor
    · rintro ⟨r, hr⟩
      obtain ⟨h1, h2⟩ := (hd H _).1 hr
      obtain ⟨h3, h4⟩ := (h.held x m).1 ⟨r, h1⟩
      exact ⟨⟨h3, h2⟩, h4⟩
    · rintro ⟨⟨h3, h2⟩, h4⟩
      obtain ⟨r, hr⟩ := (h.held x m).2 ⟨h3, h4⟩
      exact ⟨r, (hd H _).2 ⟨hr, h2⟩⟩
  · show (l.row.filter _) = _
    rw [h.row]
    unfold rdrop
    rw [ofKey_filter, List.filter_map]
    congr 1
    refine List.filter_congr fun c _ => ?_
    simp [cmOf]
  · obtain ⟨h1, h2⟩ := (hd L c).1 hc
    rw [h.raise c h1 hk, decide_eq_decide, strike_mem]
    exact ⟨fun h => ⟨h, h2⟩, fun h => h.1⟩
/-- While keys are struck and served: those left are ks. -/
structure RelM (who : Int) (T0 : Tb) (ks : List KeyT) (T : Tb) (sv : List Int) (R0 R : RT) (o : List Int) : Prop where
  todo : ∀ k ∈ ks, laneP T k = laneP T0 k
  simT : ∀ k ∈ ks, LSim (strikeP (laneD T k) who) R.held R.line k ∧ LnMid (strikeP (laneD T k) who)
  simD : ∀ k, k ∉ ks → LSim (laneD T k) R.held R.line k ∧ LnOk (laneD T k)
  lanesN : (T.lanes.map (·.1)).Nodup
  waits : T.waits = T0.waits
  out : o = sv.foldl kin []
  line : R.line = R0.line.filter fun c => !(sv.contains c.who)
  inL : ∀ x ∈ sv, ∃ c ∈ R0.line, c.who = x
  svN : sv.Nodup
  inH : ∀ c ∈ R.held, clOk c
  inC : ∀ c ∈ R.line, clOk c
theorem relM_step {who : Int} {T0 : Tb} {k : KeyT} {ks : List KeyT} {T : Tb} {sv o : List Int} {R0 R : RT} (h : RelM who T0 (k :: ks) T sv R0 R o) (hk : k ∉ ks) (hn : (R0.line.map Cl.who).Nodup) {l0 : Ln} (hl0 : laneP T0 k = some l0) :
    RelM who T0 ks (relStepP who (T, sv) k).1 (relStepP who (T, sv) k).2 R0 (rserve R.line.length k (R, o)).1 (rserve R.line.length k (R, o)).2 := by
  have hlp : laneP T k = some l0 := (h.todo k (List.mem_cons_self ..)).trans hl0
  have hld : laneD T k = l0 := by unfold laneD; rw [hlp]; rfl
  obtain ⟨s1, m1⟩ := h.simT k (List.mem_cons_self ..)
  rw [hld] at s1 m1
  have hnl : (R.line.map Cl.who).Nodup := by rw [h.line]; exact (List.filter_sublist.map _).nodup hn
  have hrl : (strikeP l0 who).row.length ≤ R.line.length := by
    rw [s1.row, List.length_map]
    exact (ofKey_sub _ _).length_le
  have sv1 := serve_sim (strikeP l0 who).row.length R.line.length o m1 s1 hnl (Nat.le_refl _) hrl
  rw [← relLane_eq] at sv1
  have hstep : relStepP who (T, sv) k = (if (relLane l0 who).1.held = [] then delLane T k else setLane T k (relLane l0 who).1, sv ++ (relLane l0 who).2) := by
    unfold relStepP
    simp only [hlp]
  rw [hstep]
  obtain ⟨T', hT'⟩ : ∃ T', T' = (if (relLane l0 who).1.held = [] then delLane T k else setLane T k (relLane l0 who).1) := ⟨_, rfl⟩
  rw [← hT']
  have hother : ∀ k', k' ≠ k → laneP T' k' = laneP T k' := fun k' hne => by
    rw [hT']
    split
    · rw [laneP_del, if_neg hne]
    · rw [laneP_set, if_neg hne]
  have hotherD : ∀ k', k' ≠ k → laneD T' k' = laneD T k' := fun k' hne => by unfold laneD; rw [hother k' hne]
  have hLk : ∀ k', k' ≠ k → ofKey (rserve R.line.length k (R, o)).1.line k' = ofKey R.line k' := fun k' hne => by
    rw [sv1.line, ofKey_filter, List.filter_eq_self]
    intro c hc
    obtain ⟨hc1, hc2⟩ := ofKey_mem.1 hc
    rw [Bool.not_eq_true', List.contains_eq_mem, decide_eq_false_iff_not]
    intro hm
    obtain ⟨d, hd, hd1, hd2⟩ := sv1.inLine _ hm
    exact hne (by rw [← hc2, ← hd2, nodup_who hnl hd hc1 hd1])
  have hcong : ∀ {l : Ln} {k' : KeyT}, k' ≠ k → LSim l R.held R.line k' → LSim l (rserve R.line.length k (R, o)).1.held (rserve R.line.length k (R, o)).1.line k' := fun hne hs => hs.congr (fun c hc => sv1.other c (fun e => hne (hc ▸ e))) (hLk _ hne)
  refine ⟨fun k' hk' => ?_, fun k' hk' => ?_, fun k' hk' => ?_, ?_, ?_, ?_, ?_, fun x hx => ?_, ?_, fun c hc => ?_, fun c hc => ?_⟩
  · have hne : k' ≠ k := fun e => hk (e ▸ hk')
    rw [hother k' hne]
    exact h.todo k' (List.mem_cons_of_mem _ hk')
  · have hne : k' ≠ k := fun e => hk (e ▸ hk')
    rw [hotherD k' hne]
    obtain ⟨a, b⟩ := h.simT k' (List.mem_cons_of_mem _ hk')
    exact ⟨hcong hne a, b⟩
  · by_cases hne : k' = k
    · subst hne
      by_cases he : (relLane l0 who).1.held = []
      · have e1 : laneD T' k' = ln0 := by
          unfold laneD
          rw [hT', if_pos he, laneP_del, if_pos rfl]; rfl
        rw [e1]
        have hrow0 : (relLane l0 who).1.row = [] := by
          cases hr : (relLane l0 who).1.row with
          | nil => rfl
          | cons c r =>
            have := sv1.ok.stuck c (by rw [hr]; rfl)
            unfold letsP at this
            rw [he] at this
            simp at this
        have hs := sv1.sim
        refine ⟨⟨fun x m => ?_, ?_, fun c hc hk2 => ?_⟩, ln0_ok⟩
        · rw [hs.held, he]
          simp [ln0]
        · rw [← hs.row, hrow0]; rfl
        · have : c ∈ ofKey (rserve R.line.length k' (R, o)).1.line k' := ofKey_mem.2 ⟨hc, hk2⟩
          have h5 := hs.row
          rw [hrow0] at h5
          rw [List.map_eq_nil_iff.1 h5.symm] at this
          cases this
      · have e1 : laneD T' k' = (relLane l0 who).1 := by
          rw [hT', if_neg he, laneD_set, if_pos rfl]
        rw [e1]
        exact ⟨sv1.sim, sv1.ok⟩
    · rw [hotherD k' hne]
      obtain ⟨a, b⟩ := h.simD k' (fun e => (List.mem_cons.1 e).elim hne hk')
      exact ⟨hcong hne a, b⟩
  · rw [hT']
    split
    · exact (List.filter_sublist.map _).nodup h.lanesN
    · exact setLane_nodup h.lanesN _ _
  · rw [hT']
    split
    · exact h.waits
    · rw [setLane_waits]; exact h.waits
  · rw [sv1.out, h.out, List.foldl_append]
  · rw [sv1.line, h.line, List.filter_filter]
    refine List.filter_congr fun c _ => ?_
    simp only [List.contains_eq_mem, List.mem_append]
    by_cases h5 : c.who ∈ sv <;> by_cases h6 : c.who ∈ (relLane l0 who).2 <;> simp [h5, h6]
  · rcases List.mem_append.1 hx with hx | hx
    · exact h.inL x hx
    · obtain ⟨c, hc, h5, _⟩ := sv1.inLine x hx
      rw [h.line] at hc
      exact ⟨c, (List.mem_filter.1 hc).1, h5⟩
  · rw [List.nodup_append]
    obtain ⟨A, hA1, hA2⟩ := sv1.row
    refine ⟨h.svN, ?_, fun a ha b hb e => ?_⟩
    · rw [hA2]
      have := m1.nodup
      rw [hA1, List.map_append, List.nodup_append] at this
      exact this.1
    · obtain ⟨c, hc, h5, _⟩ := sv1.inLine b hb
      rw [h.line] at hc
      have := (List.mem_filter.1 hc).2
      rw [Bool.not_eq_true', List.contains_eq_mem, decide_eq_false_iff_not, h5, ← e] at this
      exact this ha
  · rcases sv1.heldOf c hc with h5 | ⟨d, hd, h5, h6⟩
    · exact h.inH c h5
    · have := h.inC d hd
      unfold clOk at this ⊢
      rw [← h5, ← h6]
      exact this
  · rw [sv1.line] at hc
    exact h.inC c (List.mem_filter.1 hc).1
theorem relM_all {who : Int} {T0 : Tb} {R0 : RT} (hn : (R0.line.map Cl.who).Nodup) : ∀ (ks : List KeyT) (T : Tb) (sv o : List Int) (R : RT), RelM who T0 ks T sv R0 R o → ks.Nodup → (∀ k ∈ ks, ∃ l, laneP T0 k = some l) →
    RelM who T0 [] (ks.foldl (relStepP who) (T, sv)).1 (ks.foldl (relStepP who) (T, sv)).2 R0 (ks.foldl (fun s k => rserve s.1.line.length k s) (R, o)).1 (ks.foldl (fun s k => rserve s.1.line.length k s) (R, o)).2
  | [], T, sv, o, R, h, _, _ => h
  | k :: ks, T, sv, o, R, h, hk, hl => by
    have hk2 := List.nodup_cons.1 hk
    obtain ⟨l0, hl0⟩ := hl k (List.mem_cons_self ..)
    have h1 := relM_step h hk2.1 hn hl0
    rw [List.foldl_cons, List.foldl_cons]
    exact relM_all hn ks _ _ _ _ h1 hk2.2 (fun k' hk' => hl k' (List.mem_cons_of_mem _ hk'))
theorem rwaits_filter {L : List Cl} (hn : (L.map Cl.who).Nodup) (p : Int → Bool) (x : Int) : rwaits (L.filter fun c => p c.who) x = if p x then rwaits L x else none := by
  unfold rwaits
  rw [List.find?_filter]
  by_cases hp : p x = true
  · rw [if_pos hp]
    congr 1
    funext c
    rw [Bool.eq_iff_iff, decide_eq_true_eq, beq_iff_eq]
    exact ⟨fun h => h.2, fun h => ⟨h ▸ hp, h⟩⟩
  · rw [if_neg hp, List.find?_eq_none]
    intro c _
    rw [decide_eq_true_eq, beq_iff_eq]
    rintro ⟨h1, h2⟩
    exact hp (h2 ▸ h1)
theorem rhas_iff {T : Tb} {R : RT} (h : Sim T R) (who : Int) (k : KeyT) : rhas R who k = true ↔ ∃ l, laneP T k = some l ∧ (who ∈ l.held ∨ ∃ m, waitP T who = some (k, m)) := by
  unfold rhas
  rw [rholds_of (h.lane k) who, Bool.or_eq_true, decide_eq_true_eq]
  have hw := h.waits who
  constructor
  · rintro (h1 | h1)
    · by_cases hin : who ∈ (laneD T k).held
      · unfold laneD at hin
        cases hl : laneP T k with
        | none => rw [hl] at hin; cases hin
        | some l => rw [hl] at hin; exact ⟨l, rfl, .inl hin⟩
      · rw [if_neg hin] at h1
        exact absurd h1 (by omega)
    · cases hr : rwaits R.line who with
      | none => rw [hr] at h1; cases h1
      | some w =>
        rw [hr] at h1 hw
        have h1 : (w.key == k) = true := h1
        rw [beq_iff_eq] at h1
        have hwm := List.mem_of_find?_eq_some hr
        cases hl : laneP T k with
        | none =>
          have h5 := (h.lane k).row
          unfold laneD at h5
          rw [hl] at h5
          have h6 : w ∈ ofKey R.line k := ofKey_mem.2 ⟨hwm, h1⟩
          rw [List.map_eq_nil_iff.1 h5.symm] at h6
          cases h6
        | some l => exact ⟨l, rfl, .inr ⟨w.mine, by rw [hw, ← h1]; rfl⟩⟩
  · rintro ⟨l, hl, h1 | ⟨m, h1⟩⟩
    · left
      have : laneD T k = l := by unfold laneD; rw [hl]; rfl
      rw [this, if_pos h1]
      cases l.mine <;> simp
    · right
      rw [h1] at hw
      cases hr : rwaits R.line who with
      | none => rw [hr] at hw; cases hw
      | some w =>
        rw [hr] at hw
        injection hw with hw
        injection hw with h2 h3
        show (w.key == k) = true
        rw [beq_iff_eq, ← h2]
/-- Release: both stay alike, and tell the same. -/
theorem rel_sim {T : Tb} {R : RT} (h : Sim T R) {who : Int} {ks : List KeyT} (hks : KeysOf T who ks) : Sim (relP T who ks).1 (rreleaseP R who).1 ∧ Rising (rreleaseP R who).2 ∧ (∀ x, x ∈ (rreleaseP R who).2 ↔ x ∈ (relP T who ks).2) ∧ (relP T who ks).2.Nodup := by
  have hkeys : (rkeys R).filter (rhas R who) = ks := by
    refine rising_uniq keyO (List.Pairwise.sublist List.filter_sublist (rkeys_rise R).1) hks.1 fun k => ?_
    rw [List.mem_filter, rhas_iff h, hks.2]
    constructor
    · exact fun e => e.2
    · refine fun e => ⟨?_, e⟩
      rw [(rkeys_rise R).2]
      have := (rhas_iff h who k).2 e
      unfold rhas at this
      rw [Bool.or_eq_true, decide_eq_true_eq] at this
      rcases this with h1 | h1
      · unfold rholds at h1
        cases hf : R.held.find? (fun c => c.who == who && c.key == k) with
        | none => rw [hf] at h1; exact absurd h1 (by simp)
        | some c =>
          have h2 := List.find?_some hf
          rw [Bool.and_eq_true, beq_iff_eq, beq_iff_eq] at h2
          exact ⟨c, List.mem_append_left _ (List.mem_of_find?_eq_some hf), h2.2⟩
      · cases hr : rwaits R.line who with
        | none => rw [hr] at h1; cases h1
        | some w =>
          rw [hr] at h1
          exact ⟨w, List.mem_append_right _ (List.mem_of_find?_eq_some hr), by simpa using h1⟩
  have hd : ∀ (L : List Cl) (c : Cl), c ∈ rdrop L who [] true ↔ c ∈ L ∧ c.who ≠ who := fun L c => by unfold rdrop; rw [List.mem_filter]; simp
  have hrd : rdrop R.line who [] true = R.line.filter fun c => !([who].contains c.who) := by
    unfold rdrop
    refine List.filter_congr fun c _ => ?_
    by_cases e : c.who = who <;> simp [List.contains_eq_mem, e]
  have hn0 : ((rdrop R.line who [] true).map Cl.who).Nodup := by unfold rdrop; exact (List.filter_sublist.map _).nodup h.one
  have hstart : RelM who (noWait T [who]) ks (noWait T [who]) [] (rstart R who) (rstart R who) [] := by
    refine ⟨fun _ _ => rfl, fun k _ => ⟨(h.lane k).strike who, (h.ok k).mid.strike who⟩, fun k hk => ?_, h.lanesN, rfl, rfl, ?_, (fun x hx => by cases hx), List.nodup_nil, fun c hc => h.inH c ((hd _ _).1 hc).1, fun c hc => h.inL c ((hd _ _).1 hc).1⟩
    · have hno : strikeP (laneD T k) who = laneD T k := by
        have h1 : ¬ who ∈ (laneD T k).held := fun e => by
          refine hk ((hks.2 k).2 ?_)
          unfold laneD at e
          cases hl : laneP T k with
          | none => rw [hl] at e; cases e
          | some l => rw [hl] at e; exact ⟨l, rfl, .inl e⟩
        have h2 : ∀ c ∈ (laneD T k).row, c.who ≠ who := fun c hc e => by
          refine hk ((hks.2 k).2 ?_)
          cases hl : laneP T k with
          | none => unfold laneD at hc; rw [hl] at hc; cases hc
          | some l =>
            refine ⟨l, rfl, .inr ?_⟩
            have hr := (h.lane k).row
            rw [hr] at hc
            obtain ⟨d, hd1, hd2⟩ := List.mem_map.1 hc
            obtain ⟨hd3, hd4⟩ := ofKey_mem.1 hd1
            have hdw : d.who = who := by rw [← e, ← hd2]; rfl
            have hrw : rwaits R.line who = some d := by
              cases hf : rwaits R.line who with
              | none => exact absurd hdw (h.noline hf d hd3)
              | some d2 =>
                have h7 := List.find?_some hf
                rw [beq_iff_eq] at h7
                rw [nodup_who h.one (List.mem_of_find?_eq_some hf) hd3 (h7.trans hdw.symm)]
            refine ⟨d.mine, ?_⟩
            rw [h.waits who, hrw, ← hd4]; rfl
        unfold strikeP
        have e1 : (laneD T k).held.filter (· != who) = (laneD T k).held := List.filter_eq_self.2 (fun x hx => by
          rw [bne_iff_ne]
          exact fun e => h1 (e ▸ hx))
        have e2 : (laneD T k).row.filter (fun c => c.who != who) = (laneD T k).row := List.filter_eq_self.2 (fun c hc => by
          rw [bne_iff_ne]
          exact h2 c hc)
        rw [e1, e2]
      have := (h.lane k).strike who
      rw [hno] at this
      exact ⟨this, h.ok k⟩
    · exact (List.filter_eq_self.2 (fun _ _ => rfl)).symm
  have hall := relM_all hn0 ks _ _ _ _ hstart (hks.1.nodup keyO) (fun k hk => by
    obtain ⟨l, hl, _⟩ := (hks.2 k).1 hk
    exact ⟨l, hl⟩)
  have hrr : rreleaseP R who = ks.foldl (fun s k => rserve s.1.line.length k s) (rstart R who, []) := by
    unfold rreleaseP
    rw [hkeys]
  rw [hrr]
  unfold relP
  simp only
  generalize ks.foldl (relStepP who) (noWait T [who], []) = s at hall
  generalize ks.foldl (fun s k => rserve s.1.line.length k s) (rstart R who, []) = q at hall
  obtain ⟨h1, h2⟩ := kins_rise intO (fun x : Int => x) s.2 [] List.Pairwise.nil
  refine ⟨⟨fun k => (hall.simD k (by simp)).1, fun k => (hall.simD k (by simp)).2, fun x => ?_, ?_, hall.lanesN, ?_, hall.inH, hall.inC⟩, ?_, fun x => ?_, hall.svN⟩
  · rw [waitP_no]
    have e1 : waitP s.1 x = waitP (noWait T [who]) x := by unfold waitP; rw [hall.waits]
    rw [e1, waitP_no, hall.line]
    have e2 := rwaits_filter hn0 (fun y => !(s.2.contains y)) x
    have e3 := rwaits_filter h.one (fun y => !([who].contains y)) x
    have e4 : (rstart R who).line = R.line.filter fun c => !([who].contains c.who) := hrd
    have e5 : rwaits (rdrop R.line who [] true) x = rwaits (R.line.filter fun c => !([who].contains c.who)) x := by rw [hrd]
    show _ = Option.map _ (rwaits (List.filter (fun c => !(s.2.contains c.who)) (rdrop R.line who [] true)) x)
    rw [e2, e5, e3]
    simp only [List.contains_eq_mem, Bool.not_eq_true', decide_eq_false_iff_not, List.mem_singleton]
    by_cases hx : x ∈ s.2
    · rw [if_pos hx, if_neg (fun e => e hx)]; rfl
    · rw [if_neg hx, if_pos hx]
      by_cases hw : x = who
      · rw [if_pos hw, if_neg (fun e => e hw)]; rfl
      · rw [if_neg hw, if_pos hw]
        exact h.waits x
  · rw [hall.line]
    exact (List.filter_sublist.map _).nodup hn0
  · show ((s.1.waits.filter _).map _).Nodup
    rw [hall.waits]
    exact (List.filter_sublist.map _).nodup ((List.filter_sublist.map _).nodup h.waitsN)
  · rw [hall.out]
    exact h1
  · rw [hall.out]
    have := h2 x
    rw [this]
    simp
end Go.Proofs.YtmchmlkbpocboaaGreatDoor
